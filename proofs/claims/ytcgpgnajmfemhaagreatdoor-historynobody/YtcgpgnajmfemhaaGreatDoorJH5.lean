/- What this text proves: the walk of history.Open over this program, at a new device, without a seed. What this text proves: the walk of annalslaw24.awake over this program: it answers true. -/
import Derived.Test.YtcgpgnajmfemhaaGreatDoorJH3
import Derived.Test.YtcgpgnajmfemhaaGreatDoorJLH
import Derived.Lib.SlBytesConst
namespace Go.Proofs.YtcgpgnajmfemhaaGreatDoor.Vf
open Go.RowKit

theorem hchk : chkV 3 3 2 4 30 2400 1 3 = 0 := by decide
theorem cf_hfirst : ∀ (args : Array Value) (w : World), (callFunc 40 args).run Tryz.prog w = .ok (.enter 40 args) w := by intro args w; go_simp

set_option maxRecDepth 100000 in
set_option maxHeartbeats 16000000 in
theorem hopen_new {N B bd bn bm : Nat} {st : DevS} {w : World} (hd : Dev w bd bn bm st) (hA : Alive st N 0) (hN1 : 20 ≤ N) (hN2 : N ≤ 16384) (hZ : ∀ r ∈ st.now, r = nulls) (hT : ∀ W, Below B w W → Tabs W ∧ TD W) (hB : 3 ≤ B) (hbd : B ≤ bd ∧ B ≤ bn ∧ B ≤ bm) (hBw : B ≤ w.heap.size) :
    Calls Tryz.prog 18 #[.pointer (some ⟨bd, 0, none⟩), .agg #[.int .i64 3, .int .i64 3, .int .i64 2, .int .i64 4, .int .i64 30, .int .i64 2400, .int .i64 1, .int .i64 3], .slice none 0 0] w fun x w' => ∃ g, x = .returned (.tuple #[.pointer (some ⟨g, 0, none⟩), .int .i64 0]) ∧ HO B N g w' ∧ Below B w w' := by
  have b0 := (Below.refl w.heap.size w).alloc (Nat.le_refl _) (.cells #[.int .i64 3, .int .i64 3, .int .i64 2, .int .i64 4, .int .i64 30, .int .i64 2400, .int .i64 1, .int .i64 3] 25)
  have g0 := heap_alloc_new w (.cells #[.int .i64 3, .int .i64 3, .int .i64 2, .int .i64 4, .int .i64 30, .int .i64 2400, .int .i64 1, .int .i64 3] 25)
  obtain ⟨V, hV⟩ : ∃ V, w.alloc (.cells #[.int .i64 3, .int .i64 3, .int .i64 2, .int .i64 4, .int .i64 30, .int .i64 2400, .int .i64 1, .int .i64 3] 25) = V := ⟨_, rfl⟩
  rw [hV] at b0 g0
  obtain ⟨q0, q1, q2, q3, q4, q5, q6, q7⟩ := par_cells g0
  have hO := lopen_new 3 3 2 4 30 2400 1 3 hchk (hd.later b0) hA hN1 hN2 hZ (hT V (b0.mono hBw)).1 hB hbd (Nat.le_trans hBw b0.size)
  go_enter Tryz.func18, Tryz.ntmps18
  go_wp2_with fail
  refine hO.mono ?_
  rintro e w1 ⟨gl, gs, l, rfl, hLS, hl, b1, s1⟩
  have B1 : Below B w w1 := (b0.mono hBw).trans b1
  have z1 := B1.size
  have g1 := s1 25 (by decide) (by decide) (by decide) (by decide) (by decide) _ _ _ g0
  clear hO q0 q1 q2 q3 q4 q5 q6 q7 s1 b1 g0 b0 hd hZ hV
  obtain ⟨q0, q1, q2, q3, q4, q5, q6, q7⟩ := par_cells g1
  have hK := hkeys_new w1
  go_wp2_with fail
  refine hK.mono ?_
  rintro e w2 ⟨gk, rfl, hgk, b2⟩
  have g2 := (b2.block _ (Array.getElem?_eq_some_iff.1 g1).1).trans g1
  clear hK q0 q1 q2 q3 q4 q5 q6 q7 g1
  obtain ⟨q0, q1, q2, q3, q4, q5, q6, q7⟩ := par_cells g2
  have hS := snew_ok 3 3 2 4 30 2400 1 3 w2 hchk
  have B2 : Below B w w2 := B1.trans (b2.mono (by omega))
  have z2 := B2.size
  go_wp2_with fail
  refine hS.mono ?_
  rintro e w3 ⟨gt, ga, b1, b2', rfl, h1, h2, h3, h4, h5, h6, h7, h8, b3⟩
  have g3 := (b3.block _ (Array.getElem?_eq_some_iff.1 g2).1).trans g2
  clear hS q0 q1 q2 q3 q4 q5 q6 q7 g2
  have B3 : Below B w w3 := B2.trans (b3.mono (by omega))
  have z3 := B3.size
  have hLS3 := (hLS.later b2).later b3
  have hF : ∀ W, Below w3.heap.size w3 W → Calls Tryz.prog 40 #[.int .i64 3] W fun e w' => ∃ u, e = .returned u ∧ ∃ tv lv, u = .agg #[.int .i64 0, .int .i64 0, tv, .int .i64 0, lv, .slice none 0 0] ∧ HT w' tv (rootF 3 []) ∧ HT w' lv (rootF 3 []) ∧ Below W.heap.size W w' := by
    intro W hb
    refine (hfirst_any W (hT W (B3.trans (hb.mono (by omega)))).1).mono ?_
    rintro e w' ⟨tv, lv, rfl, k1, k2, k3⟩
    exact ⟨_, rfl, tv, lv, rfl, k1, k2, k3⟩
  have HF : Hid _ := hF
  clear hF
  generalize rootF 3 [] = RF at *
  go_wp2_with fail
  obtain ⟨X, hX⟩ : ∃ X, X = w3.drew := ⟨_, rfl⟩
  have bX : Below w3.heap.size w3 X := by rw [hX]; exact (Below.refl _ w3).drew
  have HC : Hid (∀ W, Below w3.heap.size w3 W → W.cell? ⟨w.heap.size, 0, none⟩ = some (.int .i64 3) ∧ W.cell? ⟨w.heap.size, 1, none⟩ = some (.int .i64 3) ∧ W.cell? ⟨w.heap.size, 2, none⟩ = some (.int .i64 2) ∧ W.cell? ⟨w.heap.size, 3, none⟩ = some (.int .i64 4) ∧ W.cell? ⟨w.heap.size, 4, none⟩ = some (.int .i64 30) ∧ W.cell? ⟨w.heap.size, 5, none⟩ = some (.int .i64 2400) ∧ W.cell? ⟨w.heap.size, 6, none⟩ = some (.int .i64 1) ∧ W.cell? ⟨w.heap.size, 7, none⟩ = some (.int .i64 3)) := fun W hb => par_cells ((hb.block _ (Array.getElem?_eq_some_iff.1 g3).1).trans g3)
  have hHeld := HC.out X bX
  clear g3
  refine wp_region_heldN (by kernel_rfl) (fun W => W.cell? ⟨w.heap.size, 0, none⟩ = some (.int .i64 3) ∧ W.cell? ⟨w.heap.size, 1, none⟩ = some (.int .i64 3) ∧ W.cell? ⟨w.heap.size, 2, none⟩ = some (.int .i64 2) ∧ W.cell? ⟨w.heap.size, 3, none⟩ = some (.int .i64 4) ∧ W.cell? ⟨w.heap.size, 4, none⟩ = some (.int .i64 30) ∧ W.cell? ⟨w.heap.size, 5, none⟩ = some (.int .i64 2400) ∧ W.cell? ⟨w.heap.size, 6, none⟩ = some (.int .i64 1) ∧ W.cell? ⟨w.heap.size, 7, none⟩ = some (.int .i64 3)) 12 rfl ?_
  rw [← hX]
  clear hX
  refine tkY 0 ⟨some 41, .load 25 (.tmp 4), 25, "history.go:37", #[], none⟩ ?v0z1 hHeld ?y0z1 ?r0z1
  case y0z1 => (intro w hSw; (try dsimp only at hSw); go_simp) <;> with_reducible rfl
  try simp only [Act.put, List.setIfInBounds_toArray, List.set_cons_zero, List.set_cons_succ]
  refine tkY 1 ⟨some 42, .move (.tmp 8), 26, "history.go:37", #[], none⟩ ?v1z2 hHeld ?y1z2 ?r1z2
  case y1z2 => (intro w hSw; (try dsimp only at hSw); go_simp) <;> with_reducible rfl
  try simp only [Act.put, List.setIfInBounds_toArray, List.set_cons_zero, List.set_cons_succ]
  refine tkY 2 ⟨some 43, .move (.tmp 10), 27, "history.go:37", #[], none⟩ ?v2z3 hHeld ?y2z3 ?r2z3
  case y2z3 => (intro w hSw; (try dsimp only at hSw); go_simp) <;> with_reducible rfl
  try simp only [Act.put, List.setIfInBounds_toArray, List.set_cons_zero, List.set_cons_succ]
  refine tkY 3 ⟨some 44, .move (.tmp 12), 28, "history.go:37", #[], none⟩ ?v3z4 hHeld ?y3z4 ?r3z4
  case y3z4 => (intro w hSw; (try dsimp only at hSw); go_simp) <;> with_reducible rfl
  try simp only [Act.put, List.setIfInBounds_toArray, List.set_cons_zero, List.set_cons_succ]
  refine tkY 5 ⟨some 46, .fieldAddr 25 (.tmp 4) 0, 0, "history.go:37", #[], none⟩ ?v5z5 hHeld ?y5z5 ?r5z5
  case y5z5 => (intro w hSw; (try dsimp only at hSw); go_simp) <;> with_reducible rfl
  try simp only [Act.put, List.setIfInBounds_toArray, List.set_cons_zero, List.set_cons_succ]
  refine tkY 6 ⟨some 47, .load 3 (.tmp 46), 3, "history.go:37", #[⟨5, .data⟩], none⟩ ?v6z6 hHeld ?y6z6 ?r6z6
  case y6z6 => (intro w hSw; (try dsimp only at hSw); go_simp) <;> with_reducible rfl
  try simp only [Act.put, List.setIfInBounds_toArray, List.set_cons_zero, List.set_cons_succ]
  refine wpAnyH_ready (rs := [4, 7]) (by kernel_rfl) (by simp) ?_
  refine AllReadyH.cons (o := ⟨some 45, .buildSlice 29 1 #[(0, .const (.slice none 0 0))], 29, "history.go:37", #[], none⟩) rfl (fun K hK => ?_) (AllReadyH.cons (o := ⟨some 48, .call { callee := .value (.func 40), args := #[.tmp 47], argTypes := #[3] }, 40, "history.go:39", #[⟨6, .data⟩], none⟩) rfl (fun K hK => ?_) (AllReadyH.nil))
  · go_simp
    have m4 := (Below.refl X.heap.size X).alloc (Nat.le_refl _) (.cells #[.slice none 0 0] 22)
    have gb := heap_alloc_new X (.cells #[.slice none 0 0] 22)
    have bC := bX.trans (m4.mono bX.size)
    have l4 := bX.size
    replace hHeld := HC.out _ bC
    refine hK.out _ _ ?_ (fun _ => ?_)
    · exact hHeld
    clear hK K
    try simp only [Act.put, List.setIfInBounds_toArray, List.set_cons_zero, List.set_cons_succ]
    refine wpAnyH_ready (rs := [7]) (by kernel_rfl) (by simp) ?_
    refine AllReadyH.cons (o := ⟨some 48, .call { callee := .value (.func 40), args := #[.tmp 47], argTypes := #[3] }, 40, "history.go:39", #[⟨6, .data⟩], none⟩) rfl (fun K hK => ?_) AllReadyH.nil
    go_simp
    refine (HF.out (X.alloc (.cells #[.slice none 0 0] 22)) bC).mono ?_
    rintro e w4 ⟨u4, rfl, tv, lv, rfl, k1, k2, k3⟩
    have bC7 := bC.trans (k3.mono bC.size)
    have gb4 := (k3.block _ (Array.getElem?_eq_some_iff.1 gb).1).trans gb
    replace hHeld := HC.out _ bC7
    refine hK.out _ _ ?_ (fun _ => ?_)
    · exact hHeld
    clear hK K
    try simp only [Act.put, List.setIfInBounds_toArray, List.set_cons_zero, List.set_cons_succ]
    refine wpAnyH_ready (rs := [8]) (by kernel_rfl) (by simp) ?_
    refine AllReadyH.cons (o := ⟨some 49, .buildSlice 30 1 #[(0, .tmp 48)], 30, "history.go:37", #[⟨7, .data⟩], none⟩) rfl (fun K hK => ?_) AllReadyH.nil
    go_simp
    have m8 := (Below.refl w4.heap.size w4).alloc (Nat.le_refl _) (.cells #[.int .i64 0, .int .i64 0, tv, .int .i64 0, lv, .slice none 0 0] 40)
    have gr := heap_alloc_new w4 (.cells #[.int .i64 0, .int .i64 0, tv, .int .i64 0, lv, .slice none 0 0] 40)
    have gbZ := (m8.block _ (Array.getElem?_eq_some_iff.1 gb4).1).trans gb4
    have bCZ := bC7.trans (m8.mono bC7.size)
    have l8 := bC7.size
    have k1Z := k1.sty (Sty.of_below m8)
    have k2Z := k2.sty (Sty.of_below m8)
    replace hHeld := HC.out _ bCZ
    refine hK.out _ _ ?_ (fun _ => ?_)
    · exact hHeld
    clear hK K
    try simp only [Act.put, List.setIfInBounds_toArray, List.set_cons_zero, List.set_cons_succ]
    refine tkY 9 ⟨some 50, .build 32 #[(0, .tmp 41), (1, .tmp 42), (2, .tmp 43), (3, .tmp 44), (4, .tmp 45), (5, .tmp 49)], 32, "history.go:37", #[⟨0, .data⟩, ⟨1, .data⟩, ⟨2, .data⟩, ⟨3, .data⟩, ⟨4, .data⟩, ⟨8, .data⟩], none⟩ ?v9z7 hHeld ?y9z7 ?r9z7
    case y9z7 => (intro w hSw; (try dsimp only at hSw); go_simp) <;> with_reducible rfl
    try simp only [Act.put, List.setIfInBounds_toArray, List.set_cons_zero, List.set_cons_succ]
    refine wpAnyH_ready (rs := [10]) (by kernel_rfl) (by simp) ?_
    refine AllReadyH.cons (o := ⟨some 51, .box 32 (.tmp 50), 23, "history.go:37", #[⟨9, .data⟩], none⟩) rfl (fun K hK => ?_) AllReadyH.nil
    go_simp
    have mh := (Below.refl _ (w4.alloc (.cells #[.int .i64 0, .int .i64 0, tv, .int .i64 0, lv, .slice none 0 0] 40))).alloc (Nat.le_refl _) (.cells #[.int .i64 3, .int .i64 3, .int .i64 2, .int .i64 4, .int .i64 30, .int .i64 2400, .int .i64 1, .int .i64 3, .pointer (some ⟨gl, 0, none⟩), .pointer (some ⟨gk, 0, none⟩), .pointer (some ⟨gt, 0, none⟩), .slice (some ⟨X.heap.size, 0, none⟩) 1 1, .slice (some ⟨w4.heap.size, 0, none⟩) 1 1, .int .i64 0] 32)
    have gh := heap_alloc_new (w4.alloc (.cells #[.int .i64 0, .int .i64 0, tv, .int .i64 0, lv, .slice none 0 0] 40)) (.cells #[.int .i64 3, .int .i64 3, .int .i64 2, .int .i64 4, .int .i64 30, .int .i64 2400, .int .i64 1, .int .i64 3, .pointer (some ⟨gl, 0, none⟩), .pointer (some ⟨gk, 0, none⟩), .pointer (some ⟨gt, 0, none⟩), .slice (some ⟨X.heap.size, 0, none⟩) 1 1, .slice (some ⟨w4.heap.size, 0, none⟩) 1 1, .int .i64 0] 32)
    have bH := bCZ.trans (mh.mono bCZ.size)
    have lb : w3.heap.size ≤ X.heap.size := by omega
    have lr : w3.heap.size ≤ w4.heap.size := by omega
    have szH := bCZ.size
    obtain ⟨gH, hgH⟩ : ∃ gH, gH = (w4.alloc (.cells #[.int .i64 0, .int .i64 0, tv, .int .i64 0, lv, .slice none 0 0] 40)).heap.size := ⟨_, rfl⟩
    rw [← hgH] at gh szH
    have hHY : HY _ gH gl gk gt (.slice (some ⟨X.heap.size, 0, none⟩) 1 1) (.slice (some ⟨w4.heap.size, 0, none⟩) 1 1) 0 := gh
    have hBB : BK _ (X.heap.size) (.cells #[.slice none 0 0] 22 (0, 0)) := (mh.block _ (Array.getElem?_eq_some_iff.1 gbZ).1).trans gbZ
    have hRR : R0 _ (w4.heap.size) tv lv := (mh.block _ (Array.getElem?_eq_some_iff.1 gr).1).trans gr
    have k1F := k1Z.sty (Sty.of_below mh)
    have k2F := k2Z.sty (Sty.of_below mh)
    replace hHeld := HC.out _ bH
    refine hK.out _ _ ?_ (fun _ => ?_)
    · exact hHeld
    clear hK K
    try simp only [Act.put, List.setIfInBounds_toArray, List.set_cons_zero, List.set_cons_succ]
    refine tkY 11 ⟨some 14, .assign (.tmp 51), 23, "history.go:37", #[⟨10, .data⟩, ⟨7, .chain⟩, ⟨0, .phase⟩, ⟨1, .phase⟩, ⟨2, .phase⟩, ⟨3, .phase⟩, ⟨4, .phase⟩, ⟨5, .phase⟩, ⟨6, .phase⟩, ⟨7, .phase⟩, ⟨8, .phase⟩, ⟨9, .phase⟩, ⟨10, .phase⟩], none⟩ ?v11z8 hHeld ?y11z8 ?r11z8
    case y11z8 => (intro w hSw; (try dsimp only at hSw); go_simp) <;> with_reducible rfl
    try simp only [Act.put, List.setIfInBounds_toArray, List.set_cons_zero, List.set_cons_succ]
    refine wpAnyH_done (by kernel_rfl) ?_ _
    clear hHeld
    have hL := hLS3.later bH
    have hE := lents_none hL (by omega)
    clear HF
    go_wp2_with fail
    refine hE.mono ?_
    rintro e w9 ⟨rfl, b9⟩
    have B9 : Below B w w9 := (B3.trans (bH.mono (by omega))).trans (b9.mono (by have := bH.size; omega))
    clear hE
    go_wp2
    go_loopw [55] (fun v wr => v = .int .i64 0 ∧ wr = w9) (fun _ _ => 0)
    case atStart => exact ⟨rfl, rfl⟩
    case round =>
      obtain ⟨rfl, hw⟩ := hrel
      subst hw
      go_wp2
      go_ret2
      have lb1 := (Array.getElem?_eq_some_iff.1 h2).1
      refine ⟨gH, ?_, ⟨gl, gs, gk, gt, ga, b1, b2', _, _, _, l, tv, lv, RF, RF, hHY.later b9, hL.later b9, by unfold tsec; omega, ⟨SN.later (SN.later h1 bH) b9, BK.later (BK.later h3 bH) b9, (h4.later bH).later b9⟩, BK.later (BK.later h2 bH) b9, hBB.later b9, hRR.later b9, k1F.sty (Sty.of_below b9), k2F.sty (Sty.of_below b9), Nat.ne_of_lt (Nat.lt_of_lt_of_le lb1 lb), Nat.le_trans (Nat.le_trans hBw z3) szH, by omega, by omega, by omega, Nat.le_trans (Nat.le_trans hBw z3) lb, by omega, Nat.le_trans (Nat.le_trans hBw z3) lr⟩, B9⟩
      rw [hgH]
      simp
  · go_simp
    refine (HF.out X bX).mono ?_
    rintro e w4 ⟨u4, rfl, tv, lv, rfl, k1, k2, k3⟩
    have bC7 := bX.trans (k3.mono bX.size)
    replace hHeld := HC.out _ bC7
    refine hK.out _ _ ?_ (fun _ => ?_)
    · exact hHeld
    clear hK K
    try simp only [Act.put, List.setIfInBounds_toArray, List.set_cons_zero, List.set_cons_succ]
    refine wpAnyH_ready (rs := [4, 8]) (by kernel_rfl) (by simp) ?_
    refine AllReadyH.cons (o := ⟨some 45, .buildSlice 29 1 #[(0, .const (.slice none 0 0))], 29, "history.go:37", #[], none⟩) rfl (fun K hK => ?_) (AllReadyH.cons (o := ⟨some 49, .buildSlice 30 1 #[(0, .tmp 48)], 30, "history.go:37", #[⟨7, .data⟩], none⟩) rfl (fun K hK => ?_) (AllReadyH.nil))
    · go_simp
      have m4 := (Below.refl w4.heap.size w4).alloc (Nat.le_refl _) (.cells #[.slice none 0 0] 22)
      have gb := heap_alloc_new w4 (.cells #[.slice none 0 0] 22)
      have bC := bC7.trans (m4.mono bC7.size)
      have l4 := bC7.size
      replace hHeld := HC.out _ bC
      refine hK.out _ _ ?_ (fun _ => ?_)
      · exact hHeld
      clear hK K
      try simp only [Act.put, List.setIfInBounds_toArray, List.set_cons_zero, List.set_cons_succ]
      refine wpAnyH_ready (rs := [8]) (by kernel_rfl) (by simp) ?_
      refine AllReadyH.cons (o := ⟨some 49, .buildSlice 30 1 #[(0, .tmp 48)], 30, "history.go:37", #[⟨7, .data⟩], none⟩) rfl (fun K hK => ?_) AllReadyH.nil
      go_simp
      have m8 := (Below.refl _ (w4.alloc (.cells #[.slice none 0 0] 22))).alloc (Nat.le_refl _) (.cells #[.int .i64 0, .int .i64 0, tv, .int .i64 0, lv, .slice none 0 0] 40)
      have gr := heap_alloc_new (w4.alloc (.cells #[.slice none 0 0] 22)) (.cells #[.int .i64 0, .int .i64 0, tv, .int .i64 0, lv, .slice none 0 0] 40)
      rw [show (w4.alloc (.cells #[.slice none 0 0] 22)).heap.size = w4.heap.size + 1 by simp] at gr
      have gbZ := (m8.block _ (Array.getElem?_eq_some_iff.1 gb).1).trans gb
      have bCZ := bC.trans (m8.mono bC.size)
      have l8 := bC7.size
      have k1Z := (k1.sty (Sty.of_below m4)).sty (Sty.of_below m8)
      have k2Z := (k2.sty (Sty.of_below m4)).sty (Sty.of_below m8)
      replace hHeld := HC.out _ bCZ
      refine hK.out _ _ ?_ (fun _ => ?_)
      · exact hHeld
      clear hK K
      try simp only [Act.put, List.setIfInBounds_toArray, List.set_cons_zero, List.set_cons_succ]
      refine tkY 9 ⟨some 50, .build 32 #[(0, .tmp 41), (1, .tmp 42), (2, .tmp 43), (3, .tmp 44), (4, .tmp 45), (5, .tmp 49)], 32, "history.go:37", #[⟨0, .data⟩, ⟨1, .data⟩, ⟨2, .data⟩, ⟨3, .data⟩, ⟨4, .data⟩, ⟨8, .data⟩], none⟩ ?v9z9 hHeld ?y9z9 ?r9z9
      case y9z9 => (intro w hSw; (try dsimp only at hSw); go_simp) <;> with_reducible rfl
      try simp only [Act.put, List.setIfInBounds_toArray, List.set_cons_zero, List.set_cons_succ]
      refine wpAnyH_ready (rs := [10]) (by kernel_rfl) (by simp) ?_
      refine AllReadyH.cons (o := ⟨some 51, .box 32 (.tmp 50), 23, "history.go:37", #[⟨9, .data⟩], none⟩) rfl (fun K hK => ?_) AllReadyH.nil
      go_simp
      have mh := (Below.refl _ ((w4.alloc (.cells #[.slice none 0 0] 22)).alloc (.cells #[.int .i64 0, .int .i64 0, tv, .int .i64 0, lv, .slice none 0 0] 40))).alloc (Nat.le_refl _) (.cells #[.int .i64 3, .int .i64 3, .int .i64 2, .int .i64 4, .int .i64 30, .int .i64 2400, .int .i64 1, .int .i64 3, .pointer (some ⟨gl, 0, none⟩), .pointer (some ⟨gk, 0, none⟩), .pointer (some ⟨gt, 0, none⟩), .slice (some ⟨w4.heap.size, 0, none⟩) 1 1, .slice (some ⟨w4.heap.size + 1, 0, none⟩) 1 1, .int .i64 0] 32)
      have gh := heap_alloc_new ((w4.alloc (.cells #[.slice none 0 0] 22)).alloc (.cells #[.int .i64 0, .int .i64 0, tv, .int .i64 0, lv, .slice none 0 0] 40)) (.cells #[.int .i64 3, .int .i64 3, .int .i64 2, .int .i64 4, .int .i64 30, .int .i64 2400, .int .i64 1, .int .i64 3, .pointer (some ⟨gl, 0, none⟩), .pointer (some ⟨gk, 0, none⟩), .pointer (some ⟨gt, 0, none⟩), .slice (some ⟨w4.heap.size, 0, none⟩) 1 1, .slice (some ⟨w4.heap.size + 1, 0, none⟩) 1 1, .int .i64 0] 32)
      have bH := bCZ.trans (mh.mono bCZ.size)
      have lb : w3.heap.size ≤ w4.heap.size := by omega
      have lr : w3.heap.size ≤ w4.heap.size + 1 := by omega
      have szH := bCZ.size
      obtain ⟨gH, hgH⟩ : ∃ gH, gH = ((w4.alloc (.cells #[.slice none 0 0] 22)).alloc (.cells #[.int .i64 0, .int .i64 0, tv, .int .i64 0, lv, .slice none 0 0] 40)).heap.size := ⟨_, rfl⟩
      rw [← hgH] at gh szH
      have hHY : HY _ gH gl gk gt (.slice (some ⟨w4.heap.size, 0, none⟩) 1 1) (.slice (some ⟨w4.heap.size + 1, 0, none⟩) 1 1) 0 := gh
      have hBB : BK _ (w4.heap.size) (.cells #[.slice none 0 0] 22 (0, 0)) := (mh.block _ (Array.getElem?_eq_some_iff.1 gbZ).1).trans gbZ
      have hRR : R0 _ (w4.heap.size + 1) tv lv := (mh.block _ (Array.getElem?_eq_some_iff.1 gr).1).trans gr
      have k1F := k1Z.sty (Sty.of_below mh)
      have k2F := k2Z.sty (Sty.of_below mh)
      replace hHeld := HC.out _ bH
      refine hK.out _ _ ?_ (fun _ => ?_)
      · exact hHeld
      clear hK K
      try simp only [Act.put, List.setIfInBounds_toArray, List.set_cons_zero, List.set_cons_succ]
      refine tkY 11 ⟨some 14, .assign (.tmp 51), 23, "history.go:37", #[⟨10, .data⟩, ⟨7, .chain⟩, ⟨0, .phase⟩, ⟨1, .phase⟩, ⟨2, .phase⟩, ⟨3, .phase⟩, ⟨4, .phase⟩, ⟨5, .phase⟩, ⟨6, .phase⟩, ⟨7, .phase⟩, ⟨8, .phase⟩, ⟨9, .phase⟩, ⟨10, .phase⟩], none⟩ ?v11z10 hHeld ?y11z10 ?r11z10
      case y11z10 => (intro w hSw; (try dsimp only at hSw); go_simp) <;> with_reducible rfl
      try simp only [Act.put, List.setIfInBounds_toArray, List.set_cons_zero, List.set_cons_succ]
      refine wpAnyH_done (by kernel_rfl) ?_ _
      clear hHeld
      have hL := hLS3.later bH
      have hE := lents_none hL (by omega)
      clear HF
      go_wp2_with fail
      refine hE.mono ?_
      rintro e w9 ⟨rfl, b9⟩
      have B9 : Below B w w9 := (B3.trans (bH.mono (by omega))).trans (b9.mono (by have := bH.size; omega))
      clear hE
      go_wp2
      go_loopw [55] (fun v wr => v = .int .i64 0 ∧ wr = w9) (fun _ _ => 0)
      case atStart => exact ⟨rfl, rfl⟩
      case round =>
        obtain ⟨rfl, hw⟩ := hrel
        subst hw
        go_wp2
        go_ret2
        have lb1 := (Array.getElem?_eq_some_iff.1 h2).1
        refine ⟨gH, ?_, ⟨gl, gs, gk, gt, ga, b1, b2', _, _, _, l, tv, lv, RF, RF, hHY.later b9, hL.later b9, by unfold tsec; omega, ⟨SN.later (SN.later h1 bH) b9, BK.later (BK.later h3 bH) b9, (h4.later bH).later b9⟩, BK.later (BK.later h2 bH) b9, hBB.later b9, hRR.later b9, k1F.sty (Sty.of_below b9), k2F.sty (Sty.of_below b9), Nat.ne_of_lt (Nat.lt_of_lt_of_le lb1 lb), Nat.le_trans (Nat.le_trans hBw z3) szH, by omega, by omega, by omega, Nat.le_trans (Nat.le_trans hBw z3) lb, by omega, Nat.le_trans (Nat.le_trans hBw z3) lr⟩, B9⟩
        rw [hgH]
        simp
    · go_simp
      have m8 := (Below.refl w4.heap.size w4).alloc (Nat.le_refl _) (.cells #[.int .i64 0, .int .i64 0, tv, .int .i64 0, lv, .slice none 0 0] 40)
      have gr8 := heap_alloc_new w4 (.cells #[.int .i64 0, .int .i64 0, tv, .int .i64 0, lv, .slice none 0 0] 40)
      have bC8 := bC7.trans (m8.mono bC7.size)
      have l8 := bC7.size
      replace hHeld := HC.out _ bC8
      refine hK.out _ _ ?_ (fun _ => ?_)
      · exact hHeld
      clear hK K
      try simp only [Act.put, List.setIfInBounds_toArray, List.set_cons_zero, List.set_cons_succ]
      refine wpAnyH_ready (rs := [4]) (by kernel_rfl) (by simp) ?_
      refine AllReadyH.cons (o := ⟨some 45, .buildSlice 29 1 #[(0, .const (.slice none 0 0))], 29, "history.go:37", #[], none⟩) rfl (fun K hK => ?_) AllReadyH.nil
      go_simp
      have m4 := (Below.refl _ (w4.alloc (.cells #[.int .i64 0, .int .i64 0, tv, .int .i64 0, lv, .slice none 0 0] 40))).alloc (Nat.le_refl _) (.cells #[.slice none 0 0] 22)
      have gb := heap_alloc_new (w4.alloc (.cells #[.int .i64 0, .int .i64 0, tv, .int .i64 0, lv, .slice none 0 0] 40)) (.cells #[.slice none 0 0] 22)
      rw [show (w4.alloc (.cells #[.int .i64 0, .int .i64 0, tv, .int .i64 0, lv, .slice none 0 0] 40)).heap.size = w4.heap.size + 1 by simp] at gb
      have gr := (m4.block _ (Array.getElem?_eq_some_iff.1 gr8).1).trans gr8
      have bC := bC8.trans (m4.mono bC8.size)
      have l4 := bC7.size
      have k1Z := (k1.sty (Sty.of_below m8)).sty (Sty.of_below m4)
      have k2Z := (k2.sty (Sty.of_below m8)).sty (Sty.of_below m4)
      replace hHeld := HC.out _ bC
      refine hK.out _ _ ?_ (fun _ => ?_)
      · exact hHeld
      clear hK K
      try simp only [Act.put, List.setIfInBounds_toArray, List.set_cons_zero, List.set_cons_succ]
      refine tkY 9 ⟨some 50, .build 32 #[(0, .tmp 41), (1, .tmp 42), (2, .tmp 43), (3, .tmp 44), (4, .tmp 45), (5, .tmp 49)], 32, "history.go:37", #[⟨0, .data⟩, ⟨1, .data⟩, ⟨2, .data⟩, ⟨3, .data⟩, ⟨4, .data⟩, ⟨8, .data⟩], none⟩ ?v9z11 hHeld ?y9z11 ?r9z11
      case y9z11 => (intro w hSw; (try dsimp only at hSw); go_simp) <;> with_reducible rfl
      try simp only [Act.put, List.setIfInBounds_toArray, List.set_cons_zero, List.set_cons_succ]
      refine wpAnyH_ready (rs := [10]) (by kernel_rfl) (by simp) ?_
      refine AllReadyH.cons (o := ⟨some 51, .box 32 (.tmp 50), 23, "history.go:37", #[⟨9, .data⟩], none⟩) rfl (fun K hK => ?_) AllReadyH.nil
      go_simp
      have gbZ := gb
      have bCZ := bC
      have mh := (Below.refl _ ((w4.alloc (.cells #[.int .i64 0, .int .i64 0, tv, .int .i64 0, lv, .slice none 0 0] 40)).alloc (.cells #[.slice none 0 0] 22))).alloc (Nat.le_refl _) (.cells #[.int .i64 3, .int .i64 3, .int .i64 2, .int .i64 4, .int .i64 30, .int .i64 2400, .int .i64 1, .int .i64 3, .pointer (some ⟨gl, 0, none⟩), .pointer (some ⟨gk, 0, none⟩), .pointer (some ⟨gt, 0, none⟩), .slice (some ⟨w4.heap.size + 1, 0, none⟩) 1 1, .slice (some ⟨w4.heap.size, 0, none⟩) 1 1, .int .i64 0] 32)
      have gh := heap_alloc_new ((w4.alloc (.cells #[.int .i64 0, .int .i64 0, tv, .int .i64 0, lv, .slice none 0 0] 40)).alloc (.cells #[.slice none 0 0] 22)) (.cells #[.int .i64 3, .int .i64 3, .int .i64 2, .int .i64 4, .int .i64 30, .int .i64 2400, .int .i64 1, .int .i64 3, .pointer (some ⟨gl, 0, none⟩), .pointer (some ⟨gk, 0, none⟩), .pointer (some ⟨gt, 0, none⟩), .slice (some ⟨w4.heap.size + 1, 0, none⟩) 1 1, .slice (some ⟨w4.heap.size, 0, none⟩) 1 1, .int .i64 0] 32)
      have bH := bCZ.trans (mh.mono bCZ.size)
      have lb : w3.heap.size ≤ w4.heap.size + 1 := by omega
      have lr : w3.heap.size ≤ w4.heap.size := by omega
      have szH := bCZ.size
      obtain ⟨gH, hgH⟩ : ∃ gH, gH = ((w4.alloc (.cells #[.int .i64 0, .int .i64 0, tv, .int .i64 0, lv, .slice none 0 0] 40)).alloc (.cells #[.slice none 0 0] 22)).heap.size := ⟨_, rfl⟩
      rw [← hgH] at gh szH
      have hHY : HY _ gH gl gk gt (.slice (some ⟨w4.heap.size + 1, 0, none⟩) 1 1) (.slice (some ⟨w4.heap.size, 0, none⟩) 1 1) 0 := gh
      have hBB : BK _ (w4.heap.size + 1) (.cells #[.slice none 0 0] 22 (0, 0)) := (mh.block _ (Array.getElem?_eq_some_iff.1 gbZ).1).trans gbZ
      have hRR : R0 _ (w4.heap.size) tv lv := (mh.block _ (Array.getElem?_eq_some_iff.1 gr).1).trans gr
      have k1F := k1Z.sty (Sty.of_below mh)
      have k2F := k2Z.sty (Sty.of_below mh)
      replace hHeld := HC.out _ bH
      refine hK.out _ _ ?_ (fun _ => ?_)
      · exact hHeld
      clear hK K
      try simp only [Act.put, List.setIfInBounds_toArray, List.set_cons_zero, List.set_cons_succ]
      refine tkY 11 ⟨some 14, .assign (.tmp 51), 23, "history.go:37", #[⟨10, .data⟩, ⟨7, .chain⟩, ⟨0, .phase⟩, ⟨1, .phase⟩, ⟨2, .phase⟩, ⟨3, .phase⟩, ⟨4, .phase⟩, ⟨5, .phase⟩, ⟨6, .phase⟩, ⟨7, .phase⟩, ⟨8, .phase⟩, ⟨9, .phase⟩, ⟨10, .phase⟩], none⟩ ?v11z12 hHeld ?y11z12 ?r11z12
      case y11z12 => (intro w hSw; (try dsimp only at hSw); go_simp) <;> with_reducible rfl
      try simp only [Act.put, List.setIfInBounds_toArray, List.set_cons_zero, List.set_cons_succ]
      refine wpAnyH_done (by kernel_rfl) ?_ _
      clear hHeld
      have hL := hLS3.later bH
      have hE := lents_none hL (by omega)
      clear HF
      go_wp2_with fail
      refine hE.mono ?_
      rintro e w9 ⟨rfl, b9⟩
      have B9 : Below B w w9 := (B3.trans (bH.mono (by omega))).trans (b9.mono (by have := bH.size; omega))
      clear hE
      go_wp2
      go_loopw [55] (fun v wr => v = .int .i64 0 ∧ wr = w9) (fun _ _ => 0)
      case atStart => exact ⟨rfl, rfl⟩
      case round =>
        obtain ⟨rfl, hw⟩ := hrel
        subst hw
        go_wp2
        go_ret2
        have lb1 := (Array.getElem?_eq_some_iff.1 h2).1
        refine ⟨gH, ?_, ⟨gl, gs, gk, gt, ga, b1, b2', _, _, _, l, tv, lv, RF, RF, hHY.later b9, hL.later b9, by unfold tsec; omega, ⟨SN.later (SN.later h1 bH) b9, BK.later (BK.later h3 bH) b9, (h4.later bH).later b9⟩, BK.later (BK.later h2 bH) b9, hBB.later b9, hRR.later b9, k1F.sty (Sty.of_below b9), k2F.sty (Sty.of_below b9), Nat.ne_of_lt (Nat.lt_of_lt_of_le lb1 lb), Nat.le_trans (Nat.le_trans hBw z3) szH, by omega, by omega, by omega, Nat.le_trans (Nat.le_trans hBw z3) lb, by omega, Nat.le_trans (Nat.le_trans hBw z3) lr⟩, B9⟩
        rw [hgH]
        simp

end Go.Proofs.YtcgpgnajmfemhaaGreatDoor.Vf

namespace Go.Proofs.YtcgpgnajmfemhaaGreatDoor.Vf
open Go.RowKit

set_option maxRecDepth 100000 in
set_option maxHeartbeats 400000 in
theorem hsmall_any (w : World) : Calls Tryz.prog 19 #[] w fun x w' => x = .returned (.agg #[.int .i64 3, .int .i64 3, .int .i64 2, .int .i64 4, .int .i64 30, .int .i64 2400, .int .i64 1, .int .i64 3]) ∧ Below w.heap.size w w' := by
  have b0 := (Below.refl w.heap.size w).alloc (Nat.le_refl _) (.cells #[.int .i64 3, .int .i64 3, .int .i64 2, .int .i64 4, .int .i64 30, .int .i64 2400, .int .i64 1, .int .i64 3] 25)
  go_enter Tryz.func19, Tryz.ntmps19
  go_wp2
  refine bodyPost_ret (v := .agg #[.int .i64 3, .int .i64 3, .int .i64 2, .int .i64 4, .int .i64 30, .int .i64 2400, .int .i64 1, .int .i64 3]) ?_ rfl ?_
  · simp only [results, Tryz.results19]
    go_simp
  · exact ⟨rfl, b0⟩

theorem hb_litH {W : World} {L : Nat} {fr : Nat × Nat} (h : W.heap[L]? = some (.cells #[.int .u8 97] 5 fr)) : HB W (.slice (some ⟨L, 0, none⟩) 1 1) [97] := by
  refine ⟨_, 1, rfl, Nat.le_refl _, by unfold maxLen; omega, (fun h => by cases h), fun _ => ⟨_, 0, rfl, fun i x hx => ?_⟩⟩
  rw [Nat.zero_add, cell_of_row _ _ i _ _ _ h]
  cases i with
  | zero => simp at hx; subst hx; rfl
  | succ i => simp at hx

theorem chk_litH : ChkIs 2 4 [([97], [])] 0 := by
  refine .inr (.inr (.inr (.inr ⟨by simp, by simp, ?_, ?_, rfl⟩)))
  · rintro ⟨x, hx, h⟩
    simp at hx
    subst hx
    simp at h
  · rintro ⟨i, j, x, y, hij, hj, _⟩
    simp at hj
    omega

theorem lent_litH : (entL 0 [([97], [])]).length ≤ 40 ∧ 1 ≤ (entL 0 [([97], [])]).length ∧ bulkB [([97], [])] ≤ 1048576 := by decide +kernel

set_option maxRecDepth 100000 in
set_option maxHeartbeats 4000000 in
theorem hyAwake_any (w : World) (hT : Tabs w) (hTD : TD w) (hs : 4 ≤ w.heap.size) : Calls Tryz.prog 20 #[] w fun e w' => e = .returned (.bool true) ∧ Below w.heap.size w w' := by
  have kc := fun (w : World) (C : Array Value) (n c : Nat) => Lib.run_convert_bytes_const (P := Tryz.prog) w 37 5 C n c Tryz.underlying37 Tryz.underlying5
  have hN := new_any 100 w (by omega) (by omega)
  have hA := new_alive 100
  have hZ := new_zero 100
  have HT : Hid (∀ W, Below w.heap.size w W → Tabs W ∧ TD W) := fun W hb => ⟨hT.later hb, hTD.later hb⟩
  generalize DevS.new 100 = S0 at *
  go_enter Tryz.func20, Tryz.ntmps20
  go_wp2_with fail
  refine hN.mono ?_
  rintro e w1 ⟨bd, bn, bm, rfl, hd1, hbd, hbn, hbm, hb1⟩
  have hSm := hsmall_any w1
  clear hN
  go_wp2_with fail
  refine hSm.mono ?_
  rintro e w2 ⟨rfl, b2⟩
  have bw2 := hb1.trans (b2.mono hb1.size)
  have hO := hopen_new (B := w.heap.size) (hd1.later b2) hA (by omega) (by omega) hZ (fun W hb => HT.out W (bw2.trans hb)) (by omega) ⟨hbd, hbn, hbm⟩ bw2.size
  clear hSm
  go_wp2_with fail
  refine hO.mono ?_
  rintro e w3 ⟨g, rfl, H3, b3⟩
  have bw3 := bw2.trans b3
  have bL := (Below.refl w3.heap.size w3).alloc (Nat.le_refl _) (.cells #[.int .u8 97] 5 (1, 2))
  have gL := heap_alloc_new w3 (.cells #[.int .u8 97] 5 (1, 2))
  have sL : (w3.alloc (.cells #[.int .u8 97] 5 (1, 2))).heap.size = w3.heap.size + 1 := by simp
  have bM := (Below.refl _ (w3.alloc (.cells #[.int .u8 97] 5 (1, 2)))).alloc (Nat.le_refl _) (.cells #[.slice (some ⟨w3.heap.size, 0, none⟩) 1 1, .slice none 0 0] 90)
  have gM := heap_alloc_new (w3.alloc (.cells #[.int .u8 97] 5 (1, 2))) (.cells #[.slice (some ⟨w3.heap.size, 0, none⟩) 1 1, .slice none 0 0] 90)
  rw [sL] at gM
  have gL2 := (bM.block _ (Array.getElem?_eq_some_iff.1 gL).1).trans gL
  have bLM := bL.trans (bM.mono bL.size)
  have bwM := bw3.trans (bLM.mono bw3.size)
  obtain ⟨e1, e2, e3⟩ := lent_litH
  have ht2 : tsec (entL 0 [([97], [])]).length ≤ 10 := by unfold tsec; omega
  have hP := hpub_first (H3.later bLM) (ba_oneV gM (hb_litH gL2) (HB.nil _)) (fun W hb => HT.out W (bwM.trans hb)) (by omega) bwM.size (by omega) (by simp) (by simp) chk_litH e3 e2 (by omega) (by omega)
  generalize entL 0 [([97], [])] = EL at *
  clear hO gL gM gL2 bL bM sL
  go_wp2_with fail
  refine hP.mono ?_
  rintro e w4 ⟨rfl, ⟨gl, gk, gt, pb, cb, pr, cr, H4⟩, b4⟩
  have bw4 := bwM.trans b4
  have hE := hepoch_n H4 (by decide) (by decide)
  clear hP kc
  go_wp2_with fail
  refine hE.mono ?_
  rintro e w5 ⟨rfl, hw⟩
  have hw2 := hw.symm
  clear hw
  subst hw2
  go_wp2
  go_ret
  exact ⟨rfl, bw4⟩

end Go.Proofs.YtcgpgnajmfemhaaGreatDoor.Vf
