/- What this text proves: the walk of ideal's wrong over this program, at the kinds that are met. -/
import Derived.Test.YtbnfaeafkkagcaaIdAsof2
namespace Go.Proofs.Ytbnfaeafkkagcaa
open Go.RowKit

set_option maxRecDepth 100000 in
set_option maxHeartbeats 800000 in
theorem wrong1 (g : Nat) (fr to ti ep ix li : Int) (so : Bool) (idv v : Value) (w : World) : Calls Try.prog 16 #[.pointer (some ⟨g, 0, none⟩), .agg #[.int .i64 1, idv, .int .i64 fr, .int .i64 to, .int .i64 ti, .bool so, .int .i64 ep, .int .i64 ix, .int .i64 li, v]] w fun e w' => e = .returned (.int .i64 0) ∧ Below w.heap.size w w' := by
  have b0 := (Below.refl w.heap.size w).alloc (Nat.le_refl _) (.cells #[.int .i64 1, idv, .int .i64 fr, .int .i64 to, .int .i64 ti, .bool so, .int .i64 ep, .int .i64 ix, .int .i64 li, v] 25)
  have gA := heap_alloc_new w (.cells #[.int .i64 1, idv, .int .i64 fr, .int .i64 to, .int .i64 ti, .bool so, .int .i64 ep, .int .i64 ix, .int .i64 li, v] 25)
  obtain ⟨V, hV⟩ : ∃ V, w.alloc (.cells #[.int .i64 1, idv, .int .i64 fr, .int .i64 to, .int .i64 ti, .bool so, .int .i64 ep, .int .i64 ix, .int .i64 li, v] 25) = V := ⟨_, rfl⟩
  rw [hV] at b0 gA
  have c0 : V.cell? ⟨w.heap.size, 0, none⟩ = some (.int .i64 1) := by rw [cell_of_row _ _ 0 _ _ _ gA]; rfl

  have hq := isQuery1 V
  go_enter Try.func16, Try.ntmps16
  go_wp2_with (go_at_call 32; refine hq.mono ?_; rintro e w1 ⟨rfl, hw⟩; have hw2 := hw.symm; clear hw; subst hw2)
  go_ret
  exact ⟨rfl, b0⟩

set_option maxRecDepth 100000 in
set_option maxHeartbeats 1600000 in
theorem wrong3 (base g : Nat) (s h mi mk ch ar ca pg : Int) (ts : List Int) (us : List Value) (ck : Int) (pt : Option Addr) (ct : Nat) (pb : Option Addr) (cb : Nat) (w : World) (H : IM w base g s h mi mk ch ar ca pg ts us ck pt ct pb cb) (ht0 : 0 < ts.length) (ht1 : ts.length ≤ 300) (pi : Option Addr) (n ci : Nat) (hn : (n : Int) ≤ mi) (E : Nat) (hE : E + 1 ≤ ts.length) (fr ti ep ix li : Int) (so : Bool) (v : Value) :
    Calls Try.prog 16 #[.pointer (some ⟨g, 0, none⟩), .agg #[.int .i64 3, .slice pi n ci, .int .i64 fr, .int .i64 (E : Int), .int .i64 ti, .bool so, .int .i64 ep, .int .i64 ix, .int .i64 li, v]] w fun e w' => e = .returned (.int .i64 0) ∧ Below w.heap.size w w' := by
  have b0 := (Below.refl w.heap.size w).alloc (Nat.le_refl _) (.cells #[.int .i64 3, .slice pi n ci, .int .i64 fr, .int .i64 (E : Int), .int .i64 ti, .bool so, .int .i64 ep, .int .i64 ix, .int .i64 li, v] 25)
  have gA := heap_alloc_new w (.cells #[.int .i64 3, .slice pi n ci, .int .i64 fr, .int .i64 (E : Int), .int .i64 ti, .bool so, .int .i64 ep, .int .i64 ix, .int .i64 li, v] 25)
  obtain ⟨V, hV⟩ : ∃ V, w.alloc (.cells #[.int .i64 3, .slice pi n ci, .int .i64 fr, .int .i64 (E : Int), .int .i64 ti, .bool so, .int .i64 ep, .int .i64 ix, .int .i64 li, v] 25) = V := ⟨_, rfl⟩
  rw [hV] at b0 gA

  have hS : ∀ W, Below V.heap.size V W → (W.cell? ⟨g, 2, none⟩ = some (.int .i64 mi) ∧ W.cell? ⟨g, 8, none⟩ = some (.slice pt ts.length ct) ∧ W.cell? ⟨w.heap.size, 0, none⟩ = some (.int .i64 3) ∧ W.cell? ⟨w.heap.size, 1, none⟩ = some (.slice pi n ci) ∧ W.cell? ⟨w.heap.size, 2, none⟩ = some (.int .i64 fr) ∧ W.cell? ⟨w.heap.size, 3, none⟩ = some (.int .i64 (E : Int)) ∧ W.cell? ⟨w.heap.size, 8, none⟩ = some (.int .i64 li)) := by
    intro W hb
    obtain ⟨q0, q1, q2, q3, q4, q5, q6, q7, q8, q9, q10⟩ := map_cells ((H.later b0).later hb).1
    have gW := (hb.block _ (Array.getElem?_eq_some_iff.1 gA).1).trans gA
    exact ⟨q2, q8, by rw [cell_of_row _ _ _ _ _ _ gW]; rfl, by rw [cell_of_row _ _ _ _ _ _ gW]; rfl, by rw [cell_of_row _ _ _ _ _ _ gW]; rfl, by rw [cell_of_row _ _ _ _ _ _ gW]; rfl, by rw [cell_of_row _ _ _ _ _ _ gW]; rfl⟩
  have hS0 := hS V (Below.refl _ _)
  have d1 : Below V.heap.size V V.drew := (Below.refl _ _).drew
  have hS1 := hS _ d1
  have d2 : Below V.heap.size V V.drew.drew := d1.drew
  have hS2 := hS _ d2
  have d3 : Below V.heap.size V V.drew.drew.drew := d2.drew
  have hS3 := hS _ d3
  have bF := b0.trans (d3.mono b0.size)
  have hq := isQuery3 V
  have HP := epoch_ok g pt ts.length ct V.drew.drew hS2.2.1 ht0 (by omega)
  obtain ⟨E1, hE1⟩ : ∃ E1 : Int, (ts.length : Int) - 1 = E1 := ⟨_, rfl⟩
  rw [hE1] at HP
  have f1 : decide (mi < (n : Int)) = false := by simp; omega
  have f2 : decide ((E : Int) < 0) = false := by simp
  have f3 : decide (E1 < (E : Int)) = false := by simp; omega
  have f4 : (E : Int) ≤ E1 := by omega
  clear hE1 hS H gA hE
  obtain ⟨v2, v8, r0, r1, r2, r3, r8⟩ := hS0
  have hS0 : V.cell? ⟨g, 2, none⟩ = some (.int .i64 mi) ∧ V.cell? ⟨g, 8, none⟩ = some (.slice pt ts.length ct) ∧ V.cell? ⟨w.heap.size, 0, none⟩ = some (.int .i64 3) ∧ V.cell? ⟨w.heap.size, 1, none⟩ = some (.slice pi n ci) ∧ V.cell? ⟨w.heap.size, 2, none⟩ = some (.int .i64 fr) ∧ V.cell? ⟨w.heap.size, 3, none⟩ = some (.int .i64 (E : Int)) ∧ V.cell? ⟨w.heap.size, 8, none⟩ = some (.int .i64 li) := ⟨v2, v8, r0, r1, r2, r3, r8⟩
  go_enter Try.func16, Try.ntmps16
  go_wp2_with (go_at_call 32; refine hq.mono ?_; rintro e w1 ⟨rfl, hw⟩; have hw2 := hw.symm; clear hw; subst hw2)
  have hHeld := hS1
  refine wp_region_heldN (by kernel_rfl) (fun w' => w'.cell? ⟨g, 2, none⟩ = some (.int .i64 mi) ∧ w'.cell? ⟨g, 8, none⟩ = some (.slice pt ts.length ct) ∧ w'.cell? ⟨w.heap.size, 0, none⟩ = some (.int .i64 3) ∧ w'.cell? ⟨w.heap.size, 1, none⟩ = some (.slice pi n ci) ∧ w'.cell? ⟨w.heap.size, 2, none⟩ = some (.int .i64 fr) ∧ w'.cell? ⟨w.heap.size, 3, none⟩ = some (.int .i64 (E : Int)) ∧ w'.cell? ⟨w.heap.size, 8, none⟩ = some (.int .i64 li)) 24 rfl ?_
  refine tkY 0 ⟨some 9, .fieldAddr 25 (.tmp 3) 1, 0, "ideal.go:113", #[], none⟩ ?v0z1 hHeld ?y0z1 ?r0z1
  case y0z1 => (intro w hSw; (try dsimp only at hSw); go_simp) <;> with_reducible rfl
  try simp only [Act.put, List.setIfInBounds_toArray, List.set_cons_zero, List.set_cons_succ]
  refine tkY 1 ⟨some 10, .load 22 (.tmp 9), 22, "ideal.go:113", #[⟨0, .data⟩], none⟩ ?v1z2 hHeld ?y1z2 ?r1z2
  case y1z2 => (intro w hSw; (try dsimp only at hSw); go_simp) <;> with_reducible rfl
  try simp only [Act.put, List.setIfInBounds_toArray, List.set_cons_zero, List.set_cons_succ]
  refine tkY 2 ⟨some 11, .call { callee := .builtin .len, args := #[.tmp 10], argTypes := #[22] }, 3, "ideal.go:113", #[⟨1, .data⟩], none⟩ ?v2z3 hHeld ?y2z3 ?r2z3
  case y2z3 => (intro w hSw; (try dsimp only at hSw); go_simp) <;> with_reducible rfl
  try simp only [Act.put, List.setIfInBounds_toArray, List.set_cons_zero, List.set_cons_succ]
  refine tkY 3 ⟨some 12, .move (.tmp 0), 26, "ideal.go:113", #[], none⟩ ?v3z4 hHeld ?y3z4 ?r3z4
  case y3z4 => (intro w hSw; (try dsimp only at hSw); go_simp) <;> with_reducible rfl
  try simp only [Act.put, List.setIfInBounds_toArray, List.set_cons_zero, List.set_cons_succ]
  refine tkY 4 ⟨some 13, .nilCheck (.tmp 12), 0, "ideal.go:113", #[⟨3, .data⟩], none⟩ ?v4z5 hHeld ?y4z5 ?r4z5
  case y4z5 => (intro w hSw; (try dsimp only at hSw); go_simp) <;> with_reducible rfl
  try simp only [Act.put, List.setIfInBounds_toArray, List.set_cons_zero, List.set_cons_succ]
  refine tkY 5 ⟨some 14, .fieldAddr 32 (.tmp 13) 0, 0, "ideal.go:113", #[⟨4, .data⟩], none⟩ ?v5z6 hHeld ?y5z6 ?r5z6
  case y5z6 => (intro w hSw; (try dsimp only at hSw); go_simp) <;> with_reducible rfl
  try simp only [Act.put, List.setIfInBounds_toArray, List.set_cons_zero, List.set_cons_succ]
  refine tkY 6 ⟨some 15, .fieldAddr 28 (.tmp 14) 2, 0, "ideal.go:113", #[⟨5, .data⟩], none⟩ ?v6z7 hHeld ?y6z7 ?r6z7
  case y6z7 => (intro w hSw; (try dsimp only at hSw); go_simp) <;> with_reducible rfl
  try simp only [Act.put, List.setIfInBounds_toArray, List.set_cons_zero, List.set_cons_succ]
  refine tkY 7 ⟨some 16, .load 3 (.tmp 15), 3, "ideal.go:113", #[⟨6, .data⟩], none⟩ ?v7z8 hHeld ?y7z8 ?r7z8
  case y7z8 => (intro w hSw; (try dsimp only at hSw); go_simp) <;> with_reducible rfl
  try simp only [Act.put, List.setIfInBounds_toArray, List.set_cons_zero, List.set_cons_succ]
  refine tkY 8 ⟨some 17, .binOp .gtr 3 (.tmp 11) (.tmp 16) 3, 4, "ideal.go:113", #[⟨2, .data⟩, ⟨7, .data⟩], none⟩ ?v8z9 hHeld ?y8z9 ?r8z9
  case y8z9 => (intro w hSw; (try dsimp only at hSw); go_simp) <;> with_reducible rfl
  try simp only [Act.put, List.setIfInBounds_toArray, List.set_cons_zero, List.set_cons_succ]
  refine tkY 9 ⟨some 18, .move (.tmp 17), 4, "ideal.go:113", #[⟨8, .data⟩], none⟩ ?v9z10 hHeld ?y9z10 ?r9z10
  case y9z10 => (intro w hSw; (try dsimp only at hSw); go_simp) <;> with_reducible rfl
  try simp only [Act.put, List.setIfInBounds_toArray, List.set_cons_zero, List.set_cons_succ]
  refine tkY 10 ⟨some 19, .fieldAddr 25 (.tmp 3) 3, 0, "ideal.go:113", #[⟨9, .guard⟩], some (9, false)⟩ ?v10z11 hHeld ?y10z11 ?r10z11
  case y10z11 => (intro w hSw; (try dsimp only at hSw); go_simp) <;> with_reducible rfl
  try simp only [Act.put, List.setIfInBounds_toArray, List.set_cons_zero, List.set_cons_succ]
  refine tkY 11 ⟨some 20, .load 3 (.tmp 19), 3, "ideal.go:113", #[⟨10, .data⟩, ⟨9, .guard⟩], some (9, false)⟩ ?v11z12 hHeld ?y11z12 ?r11z12
  case y11z12 => (intro w hSw; (try dsimp only at hSw); go_simp) <;> with_reducible rfl
  try simp only [Act.put, List.setIfInBounds_toArray, List.set_cons_zero, List.set_cons_succ]
  refine tkY 12 ⟨some 21, .binOp .lss 3 (.tmp 20) (.const (.int .i64 0)) 3, 4, "ideal.go:113", #[⟨11, .data⟩, ⟨9, .guard⟩], some (9, false)⟩ ?v12z13 hHeld ?y12z13 ?r12z13
  case y12z13 => (intro w hSw; (try dsimp only at hSw); go_simp) <;> with_reducible rfl
  try simp only [Act.put, List.setIfInBounds_toArray, List.set_cons_zero, List.set_cons_succ]
  refine tkY 13 ⟨some 22, .pick (.tmp 18) (.const (.bool true)) (.tmp 21), 4, "ideal.go:113", #[⟨9, .data⟩, ⟨12, .data⟩], none⟩ ?v13z14 hHeld ?y13z14 ?r13z14
  case y13z14 => (intro w hSw; (try dsimp only at hSw); go_simp) <;> with_reducible rfl
  try simp only [Act.put, List.setIfInBounds_toArray, List.set_cons_zero, List.set_cons_succ]
  refine tkY 14 ⟨some 23, .move (.tmp 22), 4, "ideal.go:113", #[⟨13, .data⟩, ⟨9, .chain⟩], none⟩ ?v14z15 hHeld ?y14z15 ?r14z15
  case y14z15 => (intro w hSw; (try dsimp only at hSw); go_simp) <;> with_reducible rfl
  try simp only [Act.put, List.setIfInBounds_toArray, List.set_cons_zero, List.set_cons_succ]
  refine tkY 15 ⟨some 24, .fieldAddr 25 (.tmp 3) 0, 0, "ideal.go:113", #[⟨14, .guard⟩], some (14, false)⟩ ?v15z16 hHeld ?y15z16 ?r15z16
  case y15z16 => (intro w hSw; (try dsimp only at hSw); go_simp) <;> with_reducible rfl
  try simp only [Act.put, List.setIfInBounds_toArray, List.set_cons_zero, List.set_cons_succ]
  refine tkY 16 ⟨some 25, .load 3 (.tmp 24), 3, "ideal.go:113", #[⟨15, .data⟩, ⟨14, .guard⟩], some (14, false)⟩ ?v16z17 hHeld ?y16z17 ?r16z17
  case y16z17 => (intro w hSw; (try dsimp only at hSw); go_simp) <;> with_reducible rfl
  try simp only [Act.put, List.setIfInBounds_toArray, List.set_cons_zero, List.set_cons_succ]
  refine wpAnyH_ready (rs := [17]) (by kernel_rfl) (by simp) ?_
  refine AllReadyH.cons (o := ⟨some 26, .call { callee := .value (.func 33), args := #[.tmp 25], argTypes := #[3] }, 4, "ideal.go:113", #[⟨16, .data⟩, ⟨14, .chain⟩, ⟨14, .guard⟩], some (14, false)⟩) rfl (fun K hK => ?_) AllReadyH.nil
  go_simp
  refine (isRange3 _).mono ?_
  rintro e w1 ⟨rfl, hw⟩
  subst hw
  refine hK.out _ _ ?_ (fun _ => ?_)
  · exact hHeld
  clear hK K
  try simp only [Act.put, List.setIfInBounds_toArray, List.set_cons_zero, List.set_cons_succ]
  refine tkY 18 ⟨some 27, .move (.tmp 26), 4, "ideal.go:113", #[⟨17, .data⟩, ⟨17, .chain⟩, ⟨14, .guard⟩], some (14, false)⟩ ?v18z18 hHeld ?y18z18 ?r18z18
  case y18z18 => (intro w hSw; (try dsimp only at hSw); go_simp) <;> with_reducible rfl
  try simp only [Act.put, List.setIfInBounds_toArray, List.set_cons_zero, List.set_cons_succ]
  refine tkN 19 ⟨some 28, .fieldAddr 25 (.tmp 3) 2, 0, "ideal.go:113", #[⟨18, .guard⟩], some (18, true)⟩ hHeld ?_
  try simp only [Act.put, List.setIfInBounds_toArray, List.set_cons_zero, List.set_cons_succ]
  refine tkN 20 ⟨some 29, .load 3 (.tmp 28), 3, "ideal.go:113", #[⟨19, .data⟩, ⟨18, .guard⟩], some (18, true)⟩ hHeld ?_
  try simp only [Act.put, List.setIfInBounds_toArray, List.set_cons_zero, List.set_cons_succ]
  refine tkN 21 ⟨some 30, .binOp .lss 3 (.tmp 29) (.const (.int .i64 0)) 3, 4, "ideal.go:113", #[⟨20, .data⟩, ⟨18, .guard⟩], some (18, true)⟩ hHeld ?_
  try simp only [Act.put, List.setIfInBounds_toArray, List.set_cons_zero, List.set_cons_succ]
  refine tkY 22 ⟨some 31, .pick (.tmp 27) (.tmp 30) (.const (.bool false)), 4, "ideal.go:113", #[⟨18, .data⟩, ⟨21, .data⟩, ⟨14, .guard⟩], some (14, false)⟩ ?v22z19 hHeld ?y22z19 ?r22z19
  case y22z19 => (intro w hSw; (try dsimp only at hSw); go_simp) <;> with_reducible rfl
  try simp only [Act.put, List.setIfInBounds_toArray, List.set_cons_zero, List.set_cons_succ]
  refine tkY 23 ⟨some 32, .pick (.tmp 23) (.const (.bool true)) (.tmp 31), 4, "ideal.go:113", #[⟨14, .data⟩, ⟨22, .data⟩], none⟩ ?v23z20 hHeld ?y23z20 ?r23z20
  case y23z20 => (intro w hSw; (try dsimp only at hSw); go_simp) <;> with_reducible rfl
  try simp only [Act.put, List.setIfInBounds_toArray, List.set_cons_zero, List.set_cons_succ]
  refine wpAnyH_done (by kernel_rfl) ?_ _
  go_wp2
  go_region_held3 (fun w' => w'.cell? ⟨g, 2, none⟩ = some (.int .i64 mi) ∧ w'.cell? ⟨g, 8, none⟩ = some (.slice pt ts.length ct) ∧ w'.cell? ⟨w.heap.size, 0, none⟩ = some (.int .i64 3) ∧ w'.cell? ⟨w.heap.size, 1, none⟩ = some (.slice pi n ci) ∧ w'.cell? ⟨w.heap.size, 2, none⟩ = some (.int .i64 fr) ∧ w'.cell? ⟨w.heap.size, 3, none⟩ = some (.int .i64 (E : Int)) ∧ w'.cell? ⟨w.heap.size, 8, none⟩ = some (.int .i64 li)) (first | with_reducible exact hS1 | with_reducible exact hS2) (first
    | (go_at_call 6; refine HP.mono ?_; rintro e w1 ⟨rfl, hw⟩; subst hw))
  obtain ⟨_, _, z0, _, z2, z3, _⟩ := hS2
  go_wp2_with (first | (go_at_call 33; refine (isRange3 _).mono ?_; rintro e w1 ⟨rfl, hw⟩; subst hw))
  replace hHeld := hS3
  refine wp_region_heldN (by kernel_rfl) (fun w' => w'.cell? ⟨g, 2, none⟩ = some (.int .i64 mi) ∧ w'.cell? ⟨g, 8, none⟩ = some (.slice pt ts.length ct) ∧ w'.cell? ⟨w.heap.size, 0, none⟩ = some (.int .i64 3) ∧ w'.cell? ⟨w.heap.size, 1, none⟩ = some (.slice pi n ci) ∧ w'.cell? ⟨w.heap.size, 2, none⟩ = some (.int .i64 fr) ∧ w'.cell? ⟨w.heap.size, 3, none⟩ = some (.int .i64 (E : Int)) ∧ w'.cell? ⟨w.heap.size, 8, none⟩ = some (.int .i64 li)) 18 rfl ?_
  refine tkY 0 ⟨some 48, .fieldAddr 25 (.tmp 3) 0, 0, "ideal.go:122", #[], none⟩ ?v0z21 hHeld ?y0z21 ?r0z21
  case y0z21 => (intro w hSw; (try dsimp only at hSw); go_simp) <;> with_reducible rfl
  try simp only [Act.put, List.setIfInBounds_toArray, List.set_cons_zero, List.set_cons_succ]
  refine tkY 1 ⟨some 49, .load 3 (.tmp 48), 3, "ideal.go:122", #[⟨0, .data⟩], none⟩ ?v1z22 hHeld ?y1z22 ?r1z22
  case y1z22 => (intro w hSw; (try dsimp only at hSw); go_simp) <;> with_reducible rfl
  try simp only [Act.put, List.setIfInBounds_toArray, List.set_cons_zero, List.set_cons_succ]
  refine wpAnyH_ready (rs := [2]) (by kernel_rfl) (by simp) ?_
  refine AllReadyH.cons (o := ⟨some 50, .call { callee := .value (.func 34), args := #[.tmp 49], argTypes := #[3] }, 4, "ideal.go:122", #[⟨1, .data⟩], none⟩) rfl (fun K hK => ?_) AllReadyH.nil
  go_simp
  refine (isPaged3 _).mono ?_
  rintro e w1 ⟨rfl, hw⟩
  subst hw
  refine hK.out _ _ ?_ (fun _ => ?_)
  · exact hHeld
  clear hK K
  try simp only [Act.put, List.setIfInBounds_toArray, List.set_cons_zero, List.set_cons_succ]
  refine tkY 3 ⟨some 51, .move (.tmp 50), 4, "ideal.go:122", #[⟨2, .data⟩, ⟨2, .chain⟩], none⟩ ?v3z23 hHeld ?y3z23 ?r3z23
  case y3z23 => (intro w hSw; (try dsimp only at hSw); go_simp) <;> with_reducible rfl
  try simp only [Act.put, List.setIfInBounds_toArray, List.set_cons_zero, List.set_cons_succ]
  refine tkN 4 ⟨some 52, .fieldAddr 25 (.tmp 3) 8, 0, "ideal.go:122", #[⟨3, .guard⟩], some (3, true)⟩ hHeld ?_
  try simp only [Act.put, List.setIfInBounds_toArray, List.set_cons_zero, List.set_cons_succ]
  refine tkN 5 ⟨some 53, .load 3 (.tmp 52), 3, "ideal.go:122", #[⟨4, .data⟩, ⟨3, .guard⟩], some (3, true)⟩ hHeld ?_
  try simp only [Act.put, List.setIfInBounds_toArray, List.set_cons_zero, List.set_cons_succ]
  refine tkN 6 ⟨some 54, .binOp .lss 3 (.tmp 53) (.const (.int .i64 1)) 3, 4, "ideal.go:122", #[⟨5, .data⟩, ⟨3, .guard⟩], some (3, true)⟩ hHeld ?_
  try simp only [Act.put, List.setIfInBounds_toArray, List.set_cons_zero, List.set_cons_succ]
  refine tkN 7 ⟨some 55, .move (.tmp 54), 4, "ideal.go:122", #[⟨6, .data⟩, ⟨3, .chain⟩, ⟨3, .guard⟩], some (3, true)⟩ hHeld ?_
  try simp only [Act.put, List.setIfInBounds_toArray, List.set_cons_zero, List.set_cons_succ]
  refine tkN 8 ⟨some 56, .fieldAddr 25 (.tmp 3) 8, 0, "ideal.go:122", #[⟨7, .guard⟩], some (7, false)⟩ hHeld ?_
  try simp only [Act.put, List.setIfInBounds_toArray, List.set_cons_zero, List.set_cons_succ]
  refine tkN 9 ⟨some 57, .load 3 (.tmp 56), 3, "ideal.go:122", #[⟨8, .data⟩, ⟨7, .guard⟩], some (7, false)⟩ hHeld ?_
  try simp only [Act.put, List.setIfInBounds_toArray, List.set_cons_zero, List.set_cons_succ]
  refine tkN 10 ⟨some 58, .move (.tmp 0), 26, "ideal.go:122", #[⟨7, .guard⟩], some (7, false)⟩ hHeld ?_
  try simp only [Act.put, List.setIfInBounds_toArray, List.set_cons_zero, List.set_cons_succ]
  refine tkN 11 ⟨some 59, .nilCheck (.tmp 58), 0, "ideal.go:122", #[⟨10, .data⟩, ⟨7, .guard⟩], some (7, false)⟩ hHeld ?_
  try simp only [Act.put, List.setIfInBounds_toArray, List.set_cons_zero, List.set_cons_succ]
  refine tkN 12 ⟨some 60, .fieldAddr 32 (.tmp 59) 0, 0, "ideal.go:122", #[⟨11, .data⟩, ⟨7, .guard⟩], some (7, false)⟩ hHeld ?_
  try simp only [Act.put, List.setIfInBounds_toArray, List.set_cons_zero, List.set_cons_succ]
  refine tkN 13 ⟨some 61, .fieldAddr 28 (.tmp 60) 7, 0, "ideal.go:122", #[⟨12, .data⟩, ⟨7, .guard⟩], some (7, false)⟩ hHeld ?_
  try simp only [Act.put, List.setIfInBounds_toArray, List.set_cons_zero, List.set_cons_succ]
  refine tkN 14 ⟨some 62, .load 3 (.tmp 61), 3, "ideal.go:122", #[⟨13, .data⟩, ⟨7, .guard⟩], some (7, false)⟩ hHeld ?_
  try simp only [Act.put, List.setIfInBounds_toArray, List.set_cons_zero, List.set_cons_succ]
  refine tkN 15 ⟨some 63, .binOp .gtr 3 (.tmp 57) (.tmp 62) 3, 4, "ideal.go:122", #[⟨9, .data⟩, ⟨14, .data⟩, ⟨7, .guard⟩], some (7, false)⟩ hHeld ?_
  try simp only [Act.put, List.setIfInBounds_toArray, List.set_cons_zero, List.set_cons_succ]
  refine tkN 16 ⟨some 64, .pick (.tmp 55) (.const (.bool true)) (.tmp 63), 4, "ideal.go:122", #[⟨7, .data⟩, ⟨15, .data⟩, ⟨3, .guard⟩], some (3, true)⟩ hHeld ?_
  try simp only [Act.put, List.setIfInBounds_toArray, List.set_cons_zero, List.set_cons_succ]
  refine tkY 17 ⟨some 65, .pick (.tmp 51) (.tmp 64) (.const (.bool false)), 4, "ideal.go:122", #[⟨3, .data⟩, ⟨16, .data⟩], none⟩ ?v17z24 hHeld ?y17z24 ?r17z24
  case y17z24 => (intro w hSw; (try dsimp only at hSw); go_simp) <;> with_reducible rfl
  try simp only [Act.put, List.setIfInBounds_toArray, List.set_cons_zero, List.set_cons_succ]
  refine wpAnyH_done (by kernel_rfl) ?_ _
  go_wp2
  go_ret
  exact ⟨rfl, bF⟩

end Go.Proofs.Ytbnfaeafkkagcaa
