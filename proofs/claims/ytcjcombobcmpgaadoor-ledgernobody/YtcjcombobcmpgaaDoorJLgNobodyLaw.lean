/- What this text proves: the walk of annalslaw23.LedgerNobody over this program: it answers true. -/
import Derived.Test.YtcjcombobcmpgaaDoorJZ2
import Derived.Test.YtcjcombobcmpgaaDoorJZ1
namespace Go.Proofs.YtcjcombobcmpgaaDoor
open Go.RowKit

set_option maxRecDepth 100000 in
set_option maxHeartbeats 1600000 in
theorem lopen_none (v : Value) (w : World) (hv : v = .pointer none ∨ ∃ g, v = .pointer (some ⟨g, 0, none⟩) ∧ w.cell? ⟨g, 0, none⟩ = some (.slice none 0 0)) :
    Calls Tryd.prog 8 #[v, .agg #[.int .i64 4, .int .i64 4, .int .i64 3, .int .i64 6, .int .i64 30, .int .i64 2100, .int .i64 0, .int .i64 3], .slice none 0 0] w fun x w' => x = .returned (.tuple #[.pointer none, .int .i64 2]) ∧ Below w.heap.size w w' := by
  have b0 := (Below.refl w.heap.size w).alloc (Nat.le_refl _) (.cells #[.int .i64 4, .int .i64 4, .int .i64 3, .int .i64 6, .int .i64 30, .int .i64 2100, .int .i64 0, .int .i64 3] 27)
  have g0 := heap_alloc_new w (.cells #[.int .i64 4, .int .i64 4, .int .i64 3, .int .i64 6, .int .i64 30, .int .i64 2100, .int .i64 0, .int .i64 3] 27)
  obtain ⟨V, hV⟩ : ∃ V, w.alloc (.cells #[.int .i64 4, .int .i64 4, .int .i64 3, .int .i64 6, .int .i64 30, .int .i64 2100, .int .i64 0, .int .i64 3] 27) = V := ⟨_, rfl⟩
  rw [hV] at b0 g0
  obtain ⟨q0, q1, q2, q3, q4, q5, q6, q7⟩ := par_cells g0
  have hC := chk_any 4 4 3 6 30 2100 0 3 V
  rw [lchk_small] at hC
  have hO := fun W (hb : Below w.heap.size w W) => open_none v W (by
    rcases hv with rfl | ⟨g, rfl, hc⟩
    · exact miss_nil W
    · exact miss_raw g W (cell_later hb hc))
  clear hv g0
  go_enter Tryd.func8, Tryd.ntmps8
  go_wp2_with (first
    | (go_at_call 20; refine hC.mono ?_; rintro e w1 ⟨rfl, b1⟩; have bw1 := b0.trans (b1.mono b0.size))
    | (go_at_call 21; refine (hO _ bw1).mono ?_; rintro e w2 ⟨rfl, hw2⟩; have hw3 := hw2.symm; clear hw2; subst hw3))
  go_ret2
  exact ⟨rfl, bw1⟩

set_option maxRecDepth 100000 in
set_option maxHeartbeats 8000000 in
theorem lgNobodyWalk (t : Int) (p : Option Addr) (n c : Nat) (w : World) (hT : Tabs w) :
    Calls Tryd.prog 3 #[.agg #[.int .i64 t, .slice p n c]] w fun e w' => e = .returned (.bool true) ∧ Below w.heap.size w w' := by
  have hs2 : 2 ≤ w.heap.size := cell_in (hT.2 0 _ rfl)
  have b0 := (Below.refl w.heap.size w).alloc (Nat.le_refl _) (.cells #[.int .i64 t, .slice p n c] 24)
  have g0 := heap_alloc_new w (.cells #[.int .i64 t, .slice p n c] 24)
  obtain ⟨V, hV⟩ : ∃ V, w.alloc (.cells #[.int .i64 t, .slice p n c] 24) = V := ⟨_, rfl⟩
  rw [hV] at b0 g0
  have hs : 3 ≤ V.heap.size := by rw [← hV]; simp; omega
  obtain ⟨W1, hW1⟩ : ∃ W1, (V.alloc (.cells #[.int .i64 0, .int .i64 0, .int .i64 0, .int .i64 0, .int .i64 0, .int .i64 0, .int .i64 0, .int .i64 0, .pointer none, .int .i64 0, .int .i64 0, .int .i64 0] 32)).alloc (.cells #[.pointer none, .pointer (some ⟨V.heap.size, 0, none⟩)] 25) = W1 := ⟨_, rfl⟩
  have b1 : Below V.heap.size V W1 := by rw [← hW1]; exact ((Below.refl _ V).alloc (Nat.le_refl _) _).alloc (by simp) _
  have g1 : W1.heap[V.heap.size]? = some (.cells #[.int .i64 0, .int .i64 0, .int .i64 0, .int .i64 0, .int .i64 0, .int .i64 0, .int .i64 0, .int .i64 0, .pointer none, .int .i64 0, .int .i64 0, .int .i64 0] 32 (0, 0)) := by
    rw [← hW1, Below.heap_alloc _ _ _ (by simp)]
    exact heap_alloc_new V _
  have g2 : W1.heap[V.heap.size + 1]? = some (.cells #[.pointer none, .pointer (some ⟨V.heap.size, 0, none⟩)] 25 (0, 0)) := by
    rw [← hW1]
    have := heap_alloc_new (V.alloc (.cells #[.int .i64 0, .int .i64 0, .int .i64 0, .int .i64 0, .int .i64 0, .int .i64 0, .int .i64 0, .int .i64 0, .pointer none, .int .i64 0, .int .i64 0, .int .i64 0] 32)) (.cells #[.pointer none, .pointer (some ⟨V.heap.size, 0, none⟩)] 25)
    simpa using this
  have gE1 := (b1.block _ (Array.getElem?_eq_some_iff.1 g0).1).trans g0
  have d8 : W1.cell? ⟨V.heap.size, 8, none⟩ = some (.pointer none) := by rw [cell_of_row _ _ _ _ _ _ g1]; rfl
  have bw1 := b0.trans (b1.mono b0.size)
  have b1s := b1.size
  have hA0 : ∀ W, Below W1.heap.size W1 W → (Calls Tryd.prog 4 #[.pointer none, .agg #[.int .i64 t, .slice p n c]] W fun e w' => e = .returned (.int .i64 2) ∧ Below W.heap.size W w') ∧ (Calls Tryd.prog 5 #[.pointer none] W fun e w' => e = .returned (.slice none 0 0) ∧ w' = W) ∧ (Calls Tryd.prog 6 #[.pointer none, .agg #[.int .i64 t, .slice p n c]] W fun e w' => e = .returned (.bool false) ∧ Below W.heap.size W w') ∧ (Calls Tryd.prog 7 #[.pointer none] W fun e w' => e = .returned (.bool true) ∧ w' = W) := fun W _ =>
    ⟨lpub_nil _ t _ W (fun w _ => lmiss_nil w) (.inl rfl), lents_nil _ W (lmiss_nil W), lfits_nil _ t _ W (fun w _ => lmiss_nil w) (.inl rfl), lstop_nil _ W (lmiss_nil W)⟩
  have hA1 : ∀ W, Below W1.heap.size W1 W → (Calls Tryd.prog 4 #[.pointer (some ⟨V.heap.size, 0, none⟩), .agg #[.int .i64 t, .slice p n c]] W fun e w' => e = .returned (.int .i64 2) ∧ Below W.heap.size W w') ∧ (Calls Tryd.prog 5 #[.pointer (some ⟨V.heap.size, 0, none⟩)] W fun e w' => e = .returned (.slice none 0 0) ∧ w' = W) ∧ (Calls Tryd.prog 6 #[.pointer (some ⟨V.heap.size, 0, none⟩), .agg #[.int .i64 t, .slice p n c]] W fun e w' => e = .returned (.bool false) ∧ Below W.heap.size W w') ∧ (Calls Tryd.prog 7 #[.pointer (some ⟨V.heap.size, 0, none⟩)] W fun e w' => e = .returned (.bool true) ∧ w' = W) := fun W hb => by
    have hm : ∀ w, (Value.pointer (some ⟨V.heap.size, 0, none⟩) = .pointer none ∨ (∃ g, Value.pointer (some ⟨V.heap.size, 0, none⟩) = .pointer (some ⟨g, 0, none⟩) ∧ w.cell? ⟨g, 8, none⟩ = some (.pointer none))) → Calls Tryd.prog 11 #[.pointer (some ⟨V.heap.size, 0, none⟩)] w fun e w' => e = .returned (.bool true) ∧ w' = w := by
      rintro w (h | ⟨g, h, hc⟩)
      · cases h
      · simp only [Value.pointer.injEq, Option.some.injEq, Addr.mk.injEq, and_true] at h
        obtain rfl := h
        exact lmiss_raw _ w hc
    have hc := cell_later hb d8
    exact ⟨lpub_nil _ t _ W hm (.inr ⟨_, rfl, hc⟩), lents_nil _ W (lmiss_raw _ W hc), lfits_nil _ t _ W hm (.inr ⟨_, rfl, hc⟩), lstop_nil _ W (lmiss_raw _ W hc)⟩
  have HC : Hid (∀ W, Below W1.heap.size W1 W → W.cell? ⟨w.heap.size, 0, none⟩ = some (.int .i64 t) ∧ W.cell? ⟨w.heap.size, 1, none⟩ = some (.slice p n c) ∧ W.cell? ⟨V.heap.size + 1, 0, none⟩ = some (.pointer none) ∧ W.cell? ⟨V.heap.size + 1, 1, none⟩ = some (.pointer (some ⟨V.heap.size, 0, none⟩))) := by
    intro W hb
    have h1 := (hb.block _ (Array.getElem?_eq_some_iff.1 gE1).1).trans gE1
    have h2 := (hb.block _ (Array.getElem?_eq_some_iff.1 g2).1).trans g2
    exact ⟨by rw [cell_of_row _ _ _ _ _ _ h1]; rfl, by rw [cell_of_row _ _ _ _ _ _ h1]; rfl, by rw [cell_of_row _ _ _ _ _ _ h2]; rfl, by rw [cell_of_row _ _ _ _ _ _ h2]; rfl⟩
  have HA0 : Hid _ := hA0
  have HA1 : Hid _ := hA1
  clear hA0 hA1 g0 g1 g2 gE1 d8 b0 b1
  go_enter Tryd.func3, Tryd.ntmps3
  go_wp2
  clear hW1
  go_loopw [13] (fun j wr => ∃ k : Nat, k ≤ 2 ∧ j = .int .i64 k ∧ Below W1.heap.size W1 wr) (fun j _ => 2 - (RowKit.intOf j).toNat)
  case atStart => exact ⟨0, by omega, rfl, Below.refl _ _⟩
  case round =>
    obtain ⟨k, hk, rfl, hb⟩ := hrel
    obtain ⟨ec0, ec1, ep0, ep1⟩ := HC.out _ hb
    have hk3 : k = 0 ∨ k = 1 ∨ k = 2 := by omega
    rcases hk3 with rfl | rfl | rfl
    · clear HA1
      go_wp2_with (first
        | (go_at_call 4; refine (HA0.out _ hb).1.mono ?_; rintro e w4 ⟨rfl, c4⟩; have hb4 := hb.trans (c4.mono hb.size); obtain ⟨x0, x1, _, _⟩ := HC.out _ hb4)
        | (go_at_call 5; refine (HA0.out _ hb4).2.1.mono ?_; rintro e w6 ⟨rfl, hw⟩; have hw2 := hw.symm; clear hw; subst hw2)
        | (go_at_call 6; refine (HA0.out _ hb4).2.2.1.mono ?_; rintro e w5 ⟨rfl, c5⟩; have hb5 := hb4.trans (c5.mono hb4.size))
        | (go_at_call 7; refine (HA0.out _ hb5).2.2.2.mono ?_; rintro e w7 ⟨rfl, hw⟩; have hw2 := hw.symm; clear hw; subst hw2))
      go_roundw
      case rel => first | exact ⟨1, by omega, rfl, hb5⟩ | ((repeat apply Exists.intro); exact ⟨⟨1, by omega, rfl, hb5⟩, rfl⟩)
      case measure => simp [RowKit.intOf]
    · clear HA0
      go_wp2_with (first
        | (go_at_call 4; refine (HA1.out _ hb).1.mono ?_; rintro e w4 ⟨rfl, c4⟩; have hb4 := hb.trans (c4.mono hb.size); obtain ⟨x0, x1, _, _⟩ := HC.out _ hb4)
        | (go_at_call 5; refine (HA1.out _ hb4).2.1.mono ?_; rintro e w6 ⟨rfl, hw⟩; have hw2 := hw.symm; clear hw; subst hw2)
        | (go_at_call 6; refine (HA1.out _ hb4).2.2.1.mono ?_; rintro e w5 ⟨rfl, c5⟩; have hb5 := hb4.trans (c5.mono hb4.size))
        | (go_at_call 7; refine (HA1.out _ hb5).2.2.2.mono ?_; rintro e w7 ⟨rfl, hw⟩; have hw2 := hw.symm; clear hw; subst hw2))
      go_roundw
      case rel => first | exact ⟨2, by omega, rfl, hb5⟩ | ((repeat apply Exists.intro); exact ⟨⟨2, by omega, rfl, hb5⟩, rfl⟩)
      case measure => simp [RowKit.intOf]
    · clear HA0 HA1 HC ec0 ec1 ep0 ep1
      obtain ⟨X, hX⟩ : ∃ X, X = wr := ⟨_, rfl⟩
      rw [← hX] at hb
      obtain ⟨W2, hW2⟩ : ∃ W2, (X.alloc (.cells #[.slice none 0 0, .map none, .int .i64 0, .bool false, .int .i64 0] 44)).alloc (.cells #[.pointer none, .pointer (some ⟨X.heap.size, 0, none⟩)] 40) = W2 := ⟨_, rfl⟩
      have b2 : Below X.heap.size X W2 := by rw [← hW2]; exact ((Below.refl _ X).alloc (Nat.le_refl _) _).alloc (by simp) _
      have g2 : W2.heap[X.heap.size]? = some (.cells #[.slice none 0 0, .map none, .int .i64 0, .bool false, .int .i64 0] 44 (0, 0)) := by
        rw [← hW2, Below.heap_alloc _ _ _ (by simp)]
        exact heap_alloc_new X _
      have g3 : W2.heap[X.heap.size + 1]? = some (.cells #[.pointer none, .pointer (some ⟨X.heap.size, 0, none⟩)] 40 (0, 0)) := by
        rw [← hW2]
        have := heap_alloc_new (X.alloc (.cells #[.slice none 0 0, .map none, .int .i64 0, .bool false, .int .i64 0] 44)) (.cells #[.pointer none, .pointer (some ⟨X.heap.size, 0, none⟩)] 40)
        simpa using this
      have bwX := bw1.trans (hb.mono bw1.size)
      have bwW2 := bwX.trans (b2.mono bwX.size)
      have HD : Hid (∀ W, Below W2.heap.size W2 W → W.cell? ⟨X.heap.size, 0, none⟩ = some (.slice none 0 0) ∧ W.cell? ⟨X.heap.size + 1, 0, none⟩ = some (.pointer none) ∧ W.cell? ⟨X.heap.size + 1, 1, none⟩ = some (.pointer (some ⟨X.heap.size, 0, none⟩))) := by
        intro W hbb
        have h1 := (hbb.block _ (Array.getElem?_eq_some_iff.1 g2).1).trans g2
        have h2 := (hbb.block _ (Array.getElem?_eq_some_iff.1 g3).1).trans g3
        exact ⟨by rw [cell_of_row _ _ _ _ _ _ h1]; rfl, by rw [cell_of_row _ _ _ _ _ _ h2]; rfl, by rw [cell_of_row _ _ _ _ _ _ h2]; rfl⟩
      have hsX : 3 ≤ W2.heap.size := Nat.le_trans hs (Nat.le_trans (Nat.le_trans (show V.heap.size ≤ W1.heap.size from b1s) hb.size) b2.size)
      subst hX
      clear g2 g3 hb b2 bwX bw1
      go_wp2
      clear hW2
      go_loopw [42] (fun j wx => ∃ k : Nat, k ≤ 2 ∧ j = .int .i64 k ∧ Below W2.heap.size W2 wx) (fun j _ => 2 - (RowKit.intOf j).toNat)
      case atStart => exact ⟨0, by omega, rfl, Below.refl _ _⟩
      case round =>
        obtain ⟨k, hk', rfl, hb⟩ := hrel
        obtain ⟨_, ep0, ep1⟩ := HD.out _ hb
        have hk4 : k = 0 ∨ k = 1 ∨ k = 2 := by omega
        rcases hk4 with rfl | rfl | rfl
        · go_wp2_with (first
            | (go_at_call 9; refine (lgSmall_any _).mono ?_; rintro e w4 ⟨rfl, c4⟩; have hb4 := hb.trans (c4.mono hb.size))
            | (go_at_call 8; refine (lopen_none _ _ (.inl rfl)).mono ?_; rintro e w5 ⟨rfl, c5⟩; have hb5 := hb4.trans (c5.mono hb4.size)))
          go_roundw
          case rel => first | exact ⟨1, by omega, rfl, hb5⟩ | ((repeat apply Exists.intro); exact ⟨⟨1, by omega, rfl, hb5⟩, rfl⟩)
          case measure => simp [RowKit.intOf]
        · go_wp2_with (first
            | (go_at_call 9; refine (lgSmall_any _).mono ?_; rintro e w4 ⟨rfl, c4⟩; have hb4 := hb.trans (c4.mono hb.size))
            | (go_at_call 8; refine (lopen_none _ _ (.inr ⟨_, rfl, (HD.out _ hb4).1⟩)).mono ?_; rintro e w5 ⟨rfl, c5⟩; have hb5 := hb4.trans (c5.mono hb4.size)))
          go_roundw
          case rel => first | exact ⟨2, by omega, rfl, hb5⟩ | ((repeat apply Exists.intro); exact ⟨⟨2, by omega, rfl, hb5⟩, rfl⟩)
          case measure => simp [RowKit.intOf]
        · have bwE := bwW2.trans (hb.mono bwW2.size)
          have hAw := fun W (hbW : Below w.heap.size w W) (hsW : 3 ≤ W.heap.size) => lgAwake_any W (hT.later hbW) hsW
          have hAw2 := hAw _ bwE (Nat.le_trans hsX hb.size)
          clear hAw
          go_wp2_with (first | (go_at_call 10; refine hAw2.mono ?_; rintro e w6 ⟨rfl, c6⟩))
          go_ret
          exact ⟨rfl, bwE.trans (c6.mono bwE.size)⟩

end Go.Proofs.YtcjcombobcmpgaaDoor
