/- What this text proves: the walk of snaps.Kept with two retained trees in order, over this program. (By program: mksnkept.py.) What this text proves: the walk of snaps.Kept with two retained trees in order, over this program: its sort, and itself. -/
import Derived.Test.YtjnnjggcanodhaaGreatDoorJQ14
import Derived.Test.YtjnnjggcanodhaaGreatDoorJQ15
import Derived.Test.YtjnnjggcanodhaaGreatDoorJQ4
namespace Go.Proofs.YtjnnjggcanodhaaGreatDoor
open Go.RowKit

theorem cless_any (x y : Int) (w : World) : Calls Tryz.prog 82 #[.int .i64 x, .int .i64 y] w fun e w' => e = .returned (.bool (decide (x < y))) ∧ w' = w := by
  go_enter Tryz.func82, Tryz.ntmps82
  go_wp2
  go_ret
  exact ⟨rfl, rfl⟩

set_option maxRecDepth 100000 in
set_option maxHeartbeats 1000000 in
theorem isort2 (b o c : Nat) (w : World) (c0 : w.cell? ⟨b, o, none⟩ = some (.int .i64 0)) (c1 : w.cell? ⟨b, o + 1, none⟩ = some (.int .i64 1)) :
    Calls Tryz.prog 76 #[.slice (some ⟨b, o, none⟩) 2 c, .int .i64 0, .int .i64 2] w fun e w' => e = .returned (.tuple #[]) ∧ Below w.heap.size w w' := by
  go_enter Tryz.func76, Tryz.ntmps76
  go_wp2
  go_loopw [6] (fun v wr => ∃ k : Nat, 1 ≤ k ∧ k ≤ 2 ∧ v = .int .i64 (k : Int) ∧ Below w.heap.size w wr) (fun v _ => 2 - (intOf v).toNat)
  case atStart => exact ⟨1, by omega, by omega, rfl, Below.refl _ _⟩
  case round =>
    obtain ⟨k, h1, h2, rfl, hbe⟩ := hrel
    rcases (by omega : k = 1 ∨ k = 2) with rfl | rfl
    · go_wp2
      generalize wr = wo at *
      go_loopw [7] (fun v wr => v = .int .i64 1 ∧ wr = wo) (fun _ _ => 0)
      case atStart => exact ⟨rfl, rfl⟩
      case round =>
        obtain ⟨rfl, hwe⟩ := hrel
        subst hwe
        go_wp2_with fail
        obtain ⟨Z, hZ⟩ : ∃ Z, Z = wr.drew := ⟨_, rfl⟩
        have bZ : Below w.heap.size w Z := by rw [hZ]; exact hbe.drew
        have hHeld : Z.cell? ⟨b, o, none⟩ = some (.int .i64 0) ∧ Z.cell? ⟨b, o + 1, none⟩ = some (.int .i64 1) := ⟨cell_later bZ c0, cell_later bZ c1⟩
        have w0 : IntKind.i64.wrap 0 = 0 := by decide
        refine wp_region_heldN (by kernel_rfl) (fun W => W.cell? ⟨b, o, none⟩ = some (.int .i64 0) ∧ W.cell? ⟨b, o + 1, none⟩ = some (.int .i64 1)) 15 rfl ?_
        rw [← hZ]
        clear hZ
        refine tkY 0 ⟨some 16, .move (.tmp 7), 3, "zsortordered.go:14", #[], none⟩ ?v0z1 hHeld ?y0z1 ?r0z1
        case y0z1 => (intro w hSw; (try dsimp only at hSw); go_simp) <;> with_reducible rfl
        try simp only [Act.put, List.setIfInBounds_toArray, List.set_cons_zero, List.set_cons_succ]
        refine tkY 1 ⟨some 17, .move (.tmp 1), 3, "zsortordered.go:14", #[], none⟩ ?v1z2 hHeld ?y1z2 ?r1z2
        case y1z2 => (intro w hSw; (try dsimp only at hSw); go_simp) <;> with_reducible rfl
        try simp only [Act.put, List.setIfInBounds_toArray, List.set_cons_zero, List.set_cons_succ]
        refine tkY 2 ⟨some 18, .binOp .gtr 3 (.tmp 16) (.tmp 17) 3, 4, "zsortordered.go:14", #[⟨0, .data⟩, ⟨1, .data⟩], none⟩ ?v2z3 hHeld ?y2z3 ?r2z3
        case y2z3 => (intro w hSw; (try dsimp only at hSw); go_simp) <;> with_reducible rfl
        try simp only [Act.put, List.setIfInBounds_toArray, List.set_cons_zero, List.set_cons_succ]
        refine tkY 3 ⟨some 19, .move (.tmp 18), 4, "zsortordered.go:14", #[⟨2, .data⟩], none⟩ ?v3z4 hHeld ?y3z4 ?r3z4
        case y3z4 => (intro w hSw; (try dsimp only at hSw); go_simp) <;> with_reducible rfl
        try simp only [Act.put, List.setIfInBounds_toArray, List.set_cons_zero, List.set_cons_succ]
        refine tkY 4 ⟨some 20, .move (.tmp 0), 33, "zsortordered.go:14", #[⟨3, .guard⟩], some (3, true)⟩ ?v4z5 hHeld ?y4z5 ?r4z5
        case y4z5 => (intro w hSw; (try dsimp only at hSw); go_simp) <;> with_reducible rfl
        try simp only [Act.put, List.setIfInBounds_toArray, List.set_cons_zero, List.set_cons_succ]
        refine tkY 5 ⟨some 21, .move (.tmp 7), 3, "zsortordered.go:14", #[⟨3, .guard⟩], some (3, true)⟩ ?v5z6 hHeld ?y5z6 ?r5z6
        case y5z6 => (intro w hSw; (try dsimp only at hSw); go_simp) <;> with_reducible rfl
        try simp only [Act.put, List.setIfInBounds_toArray, List.set_cons_zero, List.set_cons_succ]
        refine tkY 6 ⟨some 22, .indexAddr 33 (.tmp 20) (.tmp 21), 0, "zsortordered.go:14", #[⟨4, .data⟩, ⟨5, .data⟩, ⟨3, .guard⟩], some (3, true)⟩ ?v6z7 hHeld ?y6z7 ?r6z7
        case y6z7 => (intro w hSw; (try dsimp only at hSw); go_simp) <;> with_reducible rfl
        try simp only [Act.put, List.setIfInBounds_toArray, List.set_cons_zero, List.set_cons_succ]
        refine tkY 7 ⟨some 23, .load 3 (.tmp 22), 3, "zsortordered.go:14", #[⟨6, .data⟩, ⟨3, .guard⟩], some (3, true)⟩ ?v7z8 hHeld ?y7z8 ?r7z8
        case y7z8 => (intro w hSw; (try dsimp only at hSw); go_simp) <;> with_reducible rfl
        try simp only [Act.put, List.setIfInBounds_toArray, List.set_cons_zero, List.set_cons_succ]
        refine tkY 8 ⟨some 24, .move (.tmp 0), 33, "zsortordered.go:14", #[⟨3, .guard⟩], some (3, true)⟩ ?v8z9 hHeld ?y8z9 ?r8z9
        case y8z9 => (intro w hSw; (try dsimp only at hSw); go_simp) <;> with_reducible rfl
        try simp only [Act.put, List.setIfInBounds_toArray, List.set_cons_zero, List.set_cons_succ]
        refine tkY 9 ⟨some 25, .move (.tmp 7), 3, "zsortordered.go:14", #[⟨3, .guard⟩], some (3, true)⟩ ?v9z10 hHeld ?y9z10 ?r9z10
        case y9z10 => (intro w hSw; (try dsimp only at hSw); go_simp) <;> with_reducible rfl
        try simp only [Act.put, List.setIfInBounds_toArray, List.set_cons_zero, List.set_cons_succ]
        refine tkY 10 ⟨some 26, .binOp .sub 3 (.tmp 25) (.const (.int .i64 1)) 3, 3, "zsortordered.go:14", #[⟨9, .data⟩, ⟨3, .guard⟩], some (3, true)⟩ ?v10z11 hHeld ?y10z11 ?r10z11
        case y10z11 => (intro w hSw; (try dsimp only at hSw); go_simp) <;> with_reducible rfl
        try simp only [Act.put, List.setIfInBounds_toArray, List.set_cons_zero, List.set_cons_succ]
        refine tkY 11 ⟨some 27, .indexAddr 33 (.tmp 24) (.tmp 26), 0, "zsortordered.go:14", #[⟨8, .data⟩, ⟨10, .data⟩, ⟨3, .guard⟩], some (3, true)⟩ ?v11z12 hHeld ?y11z12 ?r11z12
        case y11z12 => (intro w hSw; (try dsimp only at hSw); go_simp) <;> with_reducible rfl
        try simp only [Act.put, List.setIfInBounds_toArray, List.set_cons_zero, List.set_cons_succ]
        refine tkY 12 ⟨some 28, .load 3 (.tmp 27), 3, "zsortordered.go:14", #[⟨11, .data⟩, ⟨3, .guard⟩], some (3, true)⟩ ?v12z13 hHeld ?y12z13 ?r12z13
        case y12z13 => (intro w hSw; (try dsimp only at hSw); go_simp) <;> with_reducible rfl
        try simp only [Act.put, List.setIfInBounds_toArray, List.set_cons_zero, List.set_cons_succ]
        refine wpAnyH_ready (rs := [13]) (by kernel_rfl) (by simp) ?_
        refine AllReadyH.cons (o := ⟨some 29, .call { callee := .value (.func 82), args := #[.tmp 23, .tmp 28], argTypes := #[3, 3] }, 4, "zsortordered.go:14", #[⟨7, .data⟩, ⟨12, .data⟩, ⟨3, .chain⟩, ⟨3, .guard⟩], some (3, true)⟩) rfl (fun K hK => ?_) AllReadyH.nil
        go_simp
        refine (cless_any 1 0 _).mono ?_
        rintro e1 w4 ⟨rfl, hw4⟩
        subst hw4
        refine hK.out _ _ ?_ (fun _ => ?_)
        · exact hHeld
        clear hK K
        try simp only [Act.put, List.setIfInBounds_toArray, List.set_cons_zero, List.set_cons_succ]
        refine tkY 14 ⟨some 30, .pick (.tmp 19) (.tmp 29) (.const (.bool false)), 4, "zsortordered.go:14", #[⟨3, .data⟩, ⟨13, .data⟩], none⟩ ?v14z14 hHeld ?y14z14 ?r14z14
        case y14z14 => (intro w hSw; (try dsimp only at hSw); go_simp) <;> with_reducible rfl
        try simp only [Act.put, List.setIfInBounds_toArray, List.set_cons_zero, List.set_cons_succ]
        refine wpAnyH_done (by kernel_rfl) ?_ _
        clear hHeld
        go_wp2
        go_roundw
        case rel => first | exact ⟨2, by omega, by omega, rfl, bZ⟩ | ((repeat apply Exists.intro); exact ⟨⟨2, by omega, by omega, rfl, bZ⟩, rfl⟩)
        case measure => simp [intOf]
    · go_wp2
      go_end0
      exact ⟨rfl, hbe⟩

end Go.Proofs.YtjnnjggcanodhaaGreatDoor

namespace Go.Proofs.YtjnnjggcanodhaaGreatDoor
open Go.RowKit

set_option maxRecDepth 100000 in
set_option maxHeartbeats 1000000 in
theorem pdq2 (b o c : Nat) (z : Int) (w : World) (c0 : w.cell? ⟨b, o, none⟩ = some (.int .i64 0)) (c1 : w.cell? ⟨b, o + 1, none⟩ = some (.int .i64 1)) :
    Calls Tryz.prog 59 #[.slice (some ⟨b, o, none⟩) 2 c, .int .i64 0, .int .i64 2, .int .i64 z] w fun e w' => e = .returned (.tuple #[]) ∧ Below w.heap.size w w' := by
  have hS := isort2 b o c w c0 c1
  go_enter Tryz.func59, Tryz.ntmps59
  go_wp2
  go_loopw [1, 2] (fun u v wr => u = .int .i64 0 ∧ v = .int .i64 2 ∧ wr = w) (fun _ _ _ => 0)
  case atStart => exact ⟨rfl, rfl, rfl⟩
  case round =>
    obtain ⟨rfl, rfl, hwe⟩ := hrel
    subst hwe
    go_wp2_with fail
    refine hS.mono ?_
    rintro x w1 ⟨rfl, b1⟩
    go_wp2
    refine bodyPost_ret (v := .tuple #[]) ?_ rfl ?_
    · simp only [results, Tryz.results59]
      go_simp
    · exact ⟨rfl, b1⟩

set_option maxRecDepth 100000 in
set_option maxHeartbeats 1000000 in
theorem blen2 (w : World) : Calls Tryz.prog 60 #[.int .u64 2] w fun e w' => (∃ z, e = .returned (.int .i64 z)) ∧ w' = w := by
  go_enter Tryz.func60, Tryz.ntmps60
  go_wp2
  go_ret
  exact ⟨⟨_, rfl⟩, rfl⟩

set_option maxRecDepth 100000 in
set_option maxHeartbeats 1000000 in
theorem sort2 (b o c : Nat) (w : World) (c0 : w.cell? ⟨b, o, none⟩ = some (.int .i64 0)) (c1 : w.cell? ⟨b, o + 1, none⟩ = some (.int .i64 1)) :
    Calls Tryz.prog 45 #[.slice (some ⟨b, o, none⟩) 2 c] w fun e w' => e = .returned (.tuple #[]) ∧ Below w.heap.size w w' := by
  have hL := blen2 w
  go_enter Tryz.func45, Tryz.ntmps45
  go_wp2_with fail
  refine hL.mono ?_
  rintro x w1 ⟨⟨z, rfl⟩, hw⟩
  subst hw
  have hP := pdq2 b o c z w1 c0 c1
  clear hL
  go_wp2_with fail
  refine hP.mono ?_
  rintro x w2 ⟨rfl, b2⟩
  go_wp2
  go_end0
  exact ⟨rfl, b2⟩

set_option maxRecDepth 100000 in
set_option maxHeartbeats 1000000 in
theorem sepochs_two {w : World} {base : Nat} {pr : Option Addr} {cr : Nat} (hr : w.ownsRow base 57 2 (.slice pr 2 cr) 2 [.int .i64 0, .int .i64 (-1), .int .i64 1, .int .i64 0]) :
    Calls Tryz.prog 22 #[.slice pr 2 cr] w fun e w' => ∃ v, e = .returned v ∧ IA w' v [0, 1] ∧ Below w.heap.size w w' := by
  have cells : ∃ b, pr = some ⟨b, 0, none⟩ ∧ w.cell? ⟨b, 0, none⟩ = some (.int .i64 0) ∧ w.cell? ⟨b, 1, none⟩ = some (.int .i64 (-1)) ∧ w.cell? ⟨b, 2, none⟩ = some (.int .i64 1) ∧ w.cell? ⟨b, 3, none⟩ = some (.int .i64 0) := by
    rcases hr.2 with ⟨e, _⟩ | ⟨g, cap, cur, e, _, hg, _, _, hs, ht⟩
    · cases e
    · simp only [Value.slice.injEq, true_and] at e
      obtain ⟨rfl, rfl⟩ := e
      have hk : ∀ i, i < 4 → cur[i]? = ([.int .i64 0, .int .i64 (-1), .int .i64 1, .int .i64 0] : List Value)[i]? := by
        intro i hi
        rw [← ht, List.getElem?_take, if_pos (by omega)]
        simp
      exact ⟨g, rfl, by rw [cell_of_row _ _ _ _ _ _ hg, hk 0 (by omega)]; rfl, by rw [cell_of_row _ _ _ _ _ _ hg, hk 1 (by omega)]; rfl, by rw [cell_of_row _ _ _ _ _ _ hg, hk 2 (by omega)]; rfl, by rw [cell_of_row _ _ _ _ _ _ hg, hk 3 (by omega)]; rfl⟩
  obtain ⟨b, rfl, d0, d1, d2, d3⟩ := cells
  clear hr
  obtain ⟨i0, hi, hz0, hz1, hz2⟩ := info_parts i_intS2
  go_enter Tryz.func22, Tryz.ntmps22
  go_wp2
  go_loopw [3, 8] (fun v i wr => ∃ k : Nat, k ≤ 2 ∧ i = .int .i64 (k : Int) ∧ wr.ownsRow w.heap.size 3 1 v k (ics (List.range k)) ∧ Below w.heap.size w wr) (fun _ i _ => 2 - (intOf i).toNat)
  case atStart => exact ⟨0, by omega, rfl, World.ownsRow_nil _ _ _ _, Below.refl _ _⟩
  case round =>
    obtain ⟨k, hk, rfl, hown, hbe⟩ := hrel
    have hsz := hbe.size
    by_cases hlt : k < 2
    · have hlt2 : (k : Int) < 2 := by omega
      obtain ⟨x, y, gx, gy, hxk⟩ : ∃ x y : Int, wr.cell? ⟨b, k * 2, none⟩ = some (.int .i64 x) ∧ wr.cell? ⟨b, k * 2 + 1, none⟩ = some (.int .i64 y) ∧ x = (k : Int) := by
        rcases (by omega : k = 0 ∨ k = 1) with rfl | rfl
        · exact ⟨0, -1, cell_later hbe d0, cell_later hbe d1, rfl⟩
        · exact ⟨1, 0, cell_later hbe d2, cell_later hbe d3, rfl⟩
      subst hxk
      have bA := hbe.alloc hsz (.cells #[.int .i64 (k : Int), .int .i64 y] 57)
      have gA := heap_alloc_new wr (.cells #[.int .i64 (k : Int), .int .i64 y] 57)
      have oA := hown.alloc (.cells #[.int .i64 (k : Int), .int .i64 y] 57)
      have hzA := bA.size
      generalize hZ : wr.alloc (.cells #[.int .i64 (k : Int), .int .i64 y] 57) = Z at *
      have z0 : Z.cell? ⟨wr.heap.size, 0, none⟩ = some (.int .i64 (k : Int)) := by rw [cell_of_row _ _ _ _ _ _ gA]; rfl
      go_wp2_with (first | (at_builtin; refine wpList_append_own _ rfl (.tmp 12) (.tmp 15) 33 rfl w.heap.size 3 i0 (.int .i64 0) 1 8 Tryz.underlying33 hi hz0 hz1 hz2 rfl (by decide) _ _ _ rfl (oA.alloc _) ⟨Z.heap.size, 0, none⟩ 1 1 [.int .i64 (k : Int)] rfl rfl ?ra ?rb ?rc ?rd ?re ?_))
      case ra => exact cell_one_new _ _ _
      case rb => intro u hu; simp at hu; subst hu; rfl
      case rc => unfold maxLen; omega
      case rd => omega
      case re => simp; omega
      intro v3 w3 hown3 hgrow3 _
      have hb3 : Below w.heap.size w w3 := (bA.alloc hzA _).grown hgrow3 (by simp; omega) (fun k hk => (oA.lt k hk).1)
      have hown4 : w3.ownsRow w.heap.size 3 1 v3 (k + 1) (ics (List.range (k + 1))) := by
        have := hown3
        rw [List.range_succ]
        simp only [ics, List.map_append, List.map_cons, List.map_nil, ic] at this ⊢
        exact this
      clear hown hown3 hgrow3 oA
      go_wp2
      go_roundw
      case rel => first | exact ⟨k + 1, by omega, by go_num, hown4, hb3⟩ | ((repeat apply Exists.intro); exact ⟨⟨k + 1, by omega, by go_num, hown4, hb3⟩, rfl⟩)
      case measure => simp [intOf]; omega
    · obtain rfl : k = 2 := by omega
      have hI : IA wr _ [0, 1] := IA.of_owns hown
      obtain ⟨p2, c2, rfl⟩ := owns_shape hown
      obtain ⟨bb, oo, rfl, f1⟩ := hI.addr (by decide)
      have s0 := f1 0 0 rfl
      have s1 := f1 1 1 rfl
      rw [Nat.add_zero] at s0
      have hS := sort2 bb oo c2 wr s0 s1
      clear f1 hown
      go_wp2_with fail
      refine hS.mono ?_
      rintro x w4 ⟨rfl, b4⟩
      have bF := hbe.trans (b4.mono hsz)
      have hI4 := hI.later b4
      go_wp2
      go_ret
      exact ⟨_, rfl, hI4, bF⟩

set_option maxRecDepth 100000 in
set_option maxHeartbeats 1000000 in
theorem skept_two {w : World} {base g : Nat} {s h mi mk ch ar ca pg : Int} {ga : Nat} {vb vt : Value} {pr : Option Addr} {cr : Nat} (H : SN w g s h mi mk ch ar ca pg ga vb (.slice pr 2 cr) vt) (hr : w.ownsRow base 57 2 (.slice pr 2 cr) 2 [.int .i64 0, .int .i64 (-1), .int .i64 1, .int .i64 0]) :
    Calls Tryz.prog 9 #[.pointer (some ⟨g, 0, none⟩)] w fun e w' => ∃ v, e = .returned v ∧ IA w' v [0, 1] ∧ Below w.heap.size w w' := by
  have hM := smiss_no H
  have hE := sepochs_two hr
  obtain ⟨_, _, _, c10, _⟩ := H.cells
  clear H hr
  go_enter Tryz.func9, Tryz.ntmps9
  go_wp2_with fail
  refine hM.mono ?_
  rintro x w1 ⟨rfl, hw⟩
  subst hw
  clear hM
  go_wp2_with fail
  refine hE.mono ?_
  rintro x w2 ⟨v, rfl, hI, b2⟩
  go_wp2
  go_ret
  exact ⟨v, rfl, hI, b2⟩

end Go.Proofs.YtjnnjggcanodhaaGreatDoor
