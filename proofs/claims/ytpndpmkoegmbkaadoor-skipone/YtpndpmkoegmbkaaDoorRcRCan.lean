/- What this text proves: the walk of annalsref13.Can over this program: whether a record may be. (By program: held.py, mkrrec.py.) -/
import Derived.Test.YtpndpmkoegmbkaaDoorRcRLinks
import Derived.Test.YtpndpmkoegmbkaaDoorRegHeld
namespace Go.Proofs.YtpndpmkoegmbkaaDoor
open Go.RowKit

set_option maxRecDepth 100000 in
set_option maxHeartbeats 8000000 in
theorem rcan_any (size e t c : Int) (tv lv kv : Value) (tr li : List UInt8) (lk : List (List UInt8)) (w : World) (h1 : HB w tv tr) (h2 : HB w lv li) (h3 : PA w kv lk) :
    Calls Tryd.prog 20 #[.int .i64 size, .agg #[.int .i64 e, .int .i64 t, tv, .int .i64 c, lv, kv]] w fun x w' => x = .returned (.bool (canB size ⟨e, t, c, tr, li, lk⟩)) ∧ Below w.heap.size w w' := by
  obtain ⟨tp, tc, rfl⟩ := h1.shape
  obtain ⟨lp, lc, rfl⟩ := h2.shape
  obtain ⟨kp, kc, rfl⟩ := h3.shape
  have ht1 := h1.len_le
  have ht2 := h2.len_le
  unfold maxLen at ht1 ht2
  have bA := (Below.refl w.heap.size w).alloc (Nat.le_refl _) (.cells #[.int .i64 e, .int .i64 t, .slice tp tr.length tc, .int .i64 c, .slice lp li.length lc, .slice kp lk.length kc] 25)
  have gA := heap_alloc_new w (.cells #[.int .i64 e, .int .i64 t, .slice tp tr.length tc, .int .i64 c, .slice lp li.length lc, .slice kp lk.length kc] 25)
  obtain ⟨V, hV⟩ : ∃ V, V = w.alloc (.cells #[.int .i64 e, .int .i64 t, .slice tp tr.length tc, .int .i64 c, .slice lp li.length lc, .slice kp lk.length kc] 25) := ⟨_, rfl⟩
  rw [← hV] at bA gA
  have hg : w.heap.size < V.heap.size := (Array.getElem?_eq_some_iff.1 gA).1
  have k3 := h3.later bA
  have bD : Below V.heap.size V V.drew := (Below.refl _ V).drew
  have hml := h3.len
  unfold maxLen at hml
  have hcells : ∀ W, Below V.heap.size V W → W.cell? ⟨w.heap.size, 0, none⟩ = some (.int .i64 e) ∧ W.cell? ⟨w.heap.size, 1, none⟩ = some (.int .i64 t) ∧ W.cell? ⟨w.heap.size, 2, none⟩ = some (.slice tp tr.length tc) ∧ W.cell? ⟨w.heap.size, 3, none⟩ = some (.int .i64 c) ∧ W.cell? ⟨w.heap.size, 4, none⟩ = some (.slice lp li.length lc) ∧ W.cell? ⟨w.heap.size, 5, none⟩ = some (.slice kp lk.length kc) := by
    intro W hB
    have g1 := (hB.block _ hg).trans gA
    refine ⟨?_, ?_, ?_, ?_, ?_, ?_⟩ <;> (rw [cell_of_row _ _ _ _ _ _ g1]; rfl)
  obtain ⟨N, hN⟩ : ∃ N, N = (linksL e.toNat).length := ⟨_, rfl⟩
  have HN : Hid ((linksL e.toNat).length = N) := hN.symm
  have hLC : 0 ≤ e ∧ e ≤ 255 → Calls Tryd.prog 40 #[.int .i64 e] V.drew fun x w' => x = .returned (.int .i64 (N : Int)) ∧ w' = V.drew := by
    intro he
    have := rcount13_any e V.drew he.1 he.2
    rw [← hN] at this
    exact this
  clear hN h1 h2 h3
  go_enter Tryd.func20, Tryd.ntmps20
  go_wp2
  rw [← hV]
  clear hV gA
  have hHeld := hcells V.drew bD
  refine wp_region_heldN (by kernel_rfl) (fun W => W.cell? ⟨w.heap.size, 0, none⟩ = some (.int .i64 e) ∧ W.cell? ⟨w.heap.size, 1, none⟩ = some (.int .i64 t) ∧ W.cell? ⟨w.heap.size, 2, none⟩ = some (.slice tp tr.length tc) ∧ W.cell? ⟨w.heap.size, 3, none⟩ = some (.int .i64 c) ∧ W.cell? ⟨w.heap.size, 4, none⟩ = some (.slice lp li.length lc) ∧ W.cell? ⟨w.heap.size, 5, none⟩ = some (.slice kp lk.length kc)) 59 rfl ?_
  refine tkY 0 ⟨some 7, .move (.tmp 0), 3, "ref.go:22", #[], none⟩ ?v0z1 hHeld ?y0z1 ?r0z1
  case y0z1 => (intro w hSw; (try dsimp only at hSw); go_simp) <;> with_reducible rfl
  try simp only [Act.put, List.setIfInBounds_toArray, List.set_cons_zero, List.set_cons_succ]
  by_cases hc1 : size < 1
  · refine tkY 1 ⟨some 8, .binOp .lss 3 (.tmp 7) (.const (.int .i64 1)) 3, 4, "ref.go:22", #[⟨0, .data⟩], none⟩ ?v1z2 hHeld ?y1z2 ?r1z2
    case y1z2 => (intro w hSw; (try dsimp only at hSw); go_simp) <;> with_reducible rfl
    try simp only [Act.put, List.setIfInBounds_toArray, List.set_cons_zero, List.set_cons_succ]
    refine tkY 2 ⟨some 9, .move (.tmp 8), 4, "ref.go:22", #[⟨1, .data⟩], none⟩ ?v2z3 hHeld ?y2z3 ?r2z3
    case y2z3 => (intro w hSw; (try dsimp only at hSw); go_simp) <;> with_reducible rfl
    try simp only [Act.put, List.setIfInBounds_toArray, List.set_cons_zero, List.set_cons_succ]
    refine tkN 3 ⟨some 10, .move (.tmp 0), 3, "ref.go:22", #[⟨2, .guard⟩], some (2, false)⟩ hHeld ?_
    try simp only [Act.put, List.setIfInBounds_toArray, List.set_cons_zero, List.set_cons_succ]
    refine tkN 4 ⟨some 11, .binOp .gtr 3 (.tmp 10) (.const (.int .i64 32)) 3, 4, "ref.go:22", #[⟨3, .data⟩, ⟨2, .guard⟩], some (2, false)⟩ hHeld ?_
    try simp only [Act.put, List.setIfInBounds_toArray, List.set_cons_zero, List.set_cons_succ]
    refine tkY 5 ⟨some 12, .pick (.tmp 9) (.const (.bool true)) (.tmp 11), 4, "ref.go:22", #[⟨2, .data⟩, ⟨4, .data⟩], none⟩ ?v5z4 hHeld ?y5z4 ?r5z4
    case y5z4 => (intro w hSw; (try dsimp only at hSw); go_simp) <;> with_reducible rfl
    try simp only [Act.put, List.setIfInBounds_toArray, List.set_cons_zero, List.set_cons_succ]
    refine tkY 6 ⟨some 13, .move (.tmp 12), 4, "ref.go:22", #[⟨5, .data⟩, ⟨2, .chain⟩], none⟩ ?v6z5 hHeld ?y6z5 ?r6z5
    case y6z5 => (intro w hSw; (try dsimp only at hSw); go_simp) <;> with_reducible rfl
    try simp only [Act.put, List.setIfInBounds_toArray, List.set_cons_zero, List.set_cons_succ]
    refine tkN 7 ⟨some 14, .fieldAddr 25 (.tmp 3) 0, 0, "ref.go:22", #[⟨6, .guard⟩], some (6, false)⟩ hHeld ?_
    try simp only [Act.put, List.setIfInBounds_toArray, List.set_cons_zero, List.set_cons_succ]
    refine tkN 8 ⟨some 15, .load 3 (.tmp 14), 3, "ref.go:22", #[⟨7, .data⟩, ⟨6, .guard⟩], some (6, false)⟩ hHeld ?_
    try simp only [Act.put, List.setIfInBounds_toArray, List.set_cons_zero, List.set_cons_succ]
    refine tkN 9 ⟨some 16, .binOp .lss 3 (.tmp 15) (.const (.int .i64 0)) 3, 4, "ref.go:22", #[⟨8, .data⟩, ⟨6, .guard⟩], some (6, false)⟩ hHeld ?_
    try simp only [Act.put, List.setIfInBounds_toArray, List.set_cons_zero, List.set_cons_succ]
    refine tkY 10 ⟨some 17, .pick (.tmp 13) (.const (.bool true)) (.tmp 16), 4, "ref.go:22", #[⟨6, .data⟩, ⟨9, .data⟩], none⟩ ?v10z6 hHeld ?y10z6 ?r10z6
    case y10z6 => (intro w hSw; (try dsimp only at hSw); go_simp) <;> with_reducible rfl
    try simp only [Act.put, List.setIfInBounds_toArray, List.set_cons_zero, List.set_cons_succ]
    refine tkY 11 ⟨some 18, .move (.tmp 17), 4, "ref.go:22", #[⟨10, .data⟩, ⟨6, .chain⟩], none⟩ ?v11z7 hHeld ?y11z7 ?r11z7
    case y11z7 => (intro w hSw; (try dsimp only at hSw); go_simp) <;> with_reducible rfl
    try simp only [Act.put, List.setIfInBounds_toArray, List.set_cons_zero, List.set_cons_succ]
    refine tkN 12 ⟨some 19, .fieldAddr 25 (.tmp 3) 0, 0, "ref.go:22", #[⟨11, .guard⟩], some (11, false)⟩ hHeld ?_
    try simp only [Act.put, List.setIfInBounds_toArray, List.set_cons_zero, List.set_cons_succ]
    refine tkN 13 ⟨some 20, .load 3 (.tmp 19), 3, "ref.go:22", #[⟨12, .data⟩, ⟨11, .guard⟩], some (11, false)⟩ hHeld ?_
    try simp only [Act.put, List.setIfInBounds_toArray, List.set_cons_zero, List.set_cons_succ]
    refine tkN 14 ⟨some 21, .binOp .gtr 3 (.tmp 20) (.const (.int .i64 255)) 3, 4, "ref.go:22", #[⟨13, .data⟩, ⟨11, .guard⟩], some (11, false)⟩ hHeld ?_
    try simp only [Act.put, List.setIfInBounds_toArray, List.set_cons_zero, List.set_cons_succ]
    refine tkY 15 ⟨some 22, .pick (.tmp 18) (.const (.bool true)) (.tmp 21), 4, "ref.go:22", #[⟨11, .data⟩, ⟨14, .data⟩], none⟩ ?v15z8 hHeld ?y15z8 ?r15z8
    case y15z8 => (intro w hSw; (try dsimp only at hSw); go_simp) <;> with_reducible rfl
    try simp only [Act.put, List.setIfInBounds_toArray, List.set_cons_zero, List.set_cons_succ]
    refine tkY 16 ⟨some 23, .move (.tmp 22), 4, "ref.go:22", #[⟨15, .data⟩, ⟨11, .chain⟩], none⟩ ?v16z9 hHeld ?y16z9 ?r16z9
    case y16z9 => (intro w hSw; (try dsimp only at hSw); go_simp) <;> with_reducible rfl
    try simp only [Act.put, List.setIfInBounds_toArray, List.set_cons_zero, List.set_cons_succ]
    refine tkN 17 ⟨some 24, .fieldAddr 25 (.tmp 3) 1, 0, "ref.go:22", #[⟨16, .guard⟩], some (16, false)⟩ hHeld ?_
    try simp only [Act.put, List.setIfInBounds_toArray, List.set_cons_zero, List.set_cons_succ]
    refine tkN 18 ⟨some 25, .load 3 (.tmp 24), 3, "ref.go:22", #[⟨17, .data⟩, ⟨16, .guard⟩], some (16, false)⟩ hHeld ?_
    try simp only [Act.put, List.setIfInBounds_toArray, List.set_cons_zero, List.set_cons_succ]
    refine tkN 19 ⟨some 26, .binOp .lss 3 (.tmp 25) (.const (.int .i64 0)) 3, 4, "ref.go:22", #[⟨18, .data⟩, ⟨16, .guard⟩], some (16, false)⟩ hHeld ?_
    try simp only [Act.put, List.setIfInBounds_toArray, List.set_cons_zero, List.set_cons_succ]
    refine tkY 20 ⟨some 27, .pick (.tmp 23) (.const (.bool true)) (.tmp 26), 4, "ref.go:22", #[⟨16, .data⟩, ⟨19, .data⟩], none⟩ ?v20z10 hHeld ?y20z10 ?r20z10
    case y20z10 => (intro w hSw; (try dsimp only at hSw); go_simp) <;> with_reducible rfl
    try simp only [Act.put, List.setIfInBounds_toArray, List.set_cons_zero, List.set_cons_succ]
    refine tkY 21 ⟨some 28, .move (.tmp 27), 4, "ref.go:22", #[⟨20, .data⟩, ⟨16, .chain⟩], none⟩ ?v21z11 hHeld ?y21z11 ?r21z11
    case y21z11 => (intro w hSw; (try dsimp only at hSw); go_simp) <;> with_reducible rfl
    try simp only [Act.put, List.setIfInBounds_toArray, List.set_cons_zero, List.set_cons_succ]
    refine tkN 22 ⟨some 29, .fieldAddr 25 (.tmp 3) 1, 0, "ref.go:22", #[⟨21, .guard⟩], some (21, false)⟩ hHeld ?_
    try simp only [Act.put, List.setIfInBounds_toArray, List.set_cons_zero, List.set_cons_succ]
    refine tkN 23 ⟨some 30, .load 3 (.tmp 29), 3, "ref.go:22", #[⟨22, .data⟩, ⟨21, .guard⟩], some (21, false)⟩ hHeld ?_
    try simp only [Act.put, List.setIfInBounds_toArray, List.set_cons_zero, List.set_cons_succ]
    refine tkN 24 ⟨some 31, .binOp .gtr 3 (.tmp 30) (.const (.int .i64 1125899906842624)) 3, 4, "ref.go:22", #[⟨23, .data⟩, ⟨21, .guard⟩], some (21, false)⟩ hHeld ?_
    try simp only [Act.put, List.setIfInBounds_toArray, List.set_cons_zero, List.set_cons_succ]
    refine tkY 25 ⟨some 32, .pick (.tmp 28) (.const (.bool true)) (.tmp 31), 4, "ref.go:22", #[⟨21, .data⟩, ⟨24, .data⟩], none⟩ ?v25z12 hHeld ?y25z12 ?r25z12
    case y25z12 => (intro w hSw; (try dsimp only at hSw); go_simp) <;> with_reducible rfl
    try simp only [Act.put, List.setIfInBounds_toArray, List.set_cons_zero, List.set_cons_succ]
    refine tkY 26 ⟨some 33, .move (.tmp 32), 4, "ref.go:22", #[⟨25, .data⟩, ⟨21, .chain⟩], none⟩ ?v26z13 hHeld ?y26z13 ?r26z13
    case y26z13 => (intro w hSw; (try dsimp only at hSw); go_simp) <;> with_reducible rfl
    try simp only [Act.put, List.setIfInBounds_toArray, List.set_cons_zero, List.set_cons_succ]
    refine tkN 27 ⟨some 34, .fieldAddr 25 (.tmp 3) 3, 0, "ref.go:22", #[⟨26, .guard⟩], some (26, false)⟩ hHeld ?_
    try simp only [Act.put, List.setIfInBounds_toArray, List.set_cons_zero, List.set_cons_succ]
    refine tkN 28 ⟨some 35, .load 3 (.tmp 34), 3, "ref.go:22", #[⟨27, .data⟩, ⟨26, .guard⟩], some (26, false)⟩ hHeld ?_
    try simp only [Act.put, List.setIfInBounds_toArray, List.set_cons_zero, List.set_cons_succ]
    refine tkN 29 ⟨some 36, .binOp .lss 3 (.tmp 35) (.const (.int .i64 0)) 3, 4, "ref.go:22", #[⟨28, .data⟩, ⟨26, .guard⟩], some (26, false)⟩ hHeld ?_
    try simp only [Act.put, List.setIfInBounds_toArray, List.set_cons_zero, List.set_cons_succ]
    refine tkY 30 ⟨some 37, .pick (.tmp 33) (.const (.bool true)) (.tmp 36), 4, "ref.go:22", #[⟨26, .data⟩, ⟨29, .data⟩], none⟩ ?v30z14 hHeld ?y30z14 ?r30z14
    case y30z14 => (intro w hSw; (try dsimp only at hSw); go_simp) <;> with_reducible rfl
    try simp only [Act.put, List.setIfInBounds_toArray, List.set_cons_zero, List.set_cons_succ]
    refine tkY 31 ⟨some 38, .move (.tmp 37), 4, "ref.go:22", #[⟨30, .data⟩, ⟨26, .chain⟩], none⟩ ?v31z15 hHeld ?y31z15 ?r31z15
    case y31z15 => (intro w hSw; (try dsimp only at hSw); go_simp) <;> with_reducible rfl
    try simp only [Act.put, List.setIfInBounds_toArray, List.set_cons_zero, List.set_cons_succ]
    refine tkN 32 ⟨some 39, .fieldAddr 25 (.tmp 3) 3, 0, "ref.go:22", #[⟨31, .guard⟩], some (31, false)⟩ hHeld ?_
    try simp only [Act.put, List.setIfInBounds_toArray, List.set_cons_zero, List.set_cons_succ]
    refine tkN 33 ⟨some 40, .load 3 (.tmp 39), 3, "ref.go:22", #[⟨32, .data⟩, ⟨31, .guard⟩], some (31, false)⟩ hHeld ?_
    try simp only [Act.put, List.setIfInBounds_toArray, List.set_cons_zero, List.set_cons_succ]
    refine tkN 34 ⟨some 41, .binOp .gtr 3 (.tmp 40) (.const (.int .i64 32)) 3, 4, "ref.go:22", #[⟨33, .data⟩, ⟨31, .guard⟩], some (31, false)⟩ hHeld ?_
    try simp only [Act.put, List.setIfInBounds_toArray, List.set_cons_zero, List.set_cons_succ]
    refine tkY 35 ⟨some 42, .pick (.tmp 38) (.const (.bool true)) (.tmp 41), 4, "ref.go:22", #[⟨31, .data⟩, ⟨34, .data⟩], none⟩ ?v35z16 hHeld ?y35z16 ?r35z16
    case y35z16 => (intro w hSw; (try dsimp only at hSw); go_simp) <;> with_reducible rfl
    try simp only [Act.put, List.setIfInBounds_toArray, List.set_cons_zero, List.set_cons_succ]
    refine tkY 36 ⟨some 43, .move (.tmp 42), 4, "ref.go:22", #[⟨35, .data⟩, ⟨31, .chain⟩], none⟩ ?v36z17 hHeld ?y36z17 ?r36z17
    case y36z17 => (intro w hSw; (try dsimp only at hSw); go_simp) <;> with_reducible rfl
    try simp only [Act.put, List.setIfInBounds_toArray, List.set_cons_zero, List.set_cons_succ]
    refine tkN 37 ⟨some 44, .fieldAddr 25 (.tmp 3) 2, 0, "ref.go:22", #[⟨36, .guard⟩], some (36, false)⟩ hHeld ?_
    try simp only [Act.put, List.setIfInBounds_toArray, List.set_cons_zero, List.set_cons_succ]
    refine tkN 38 ⟨some 45, .load 22 (.tmp 44), 22, "ref.go:22", #[⟨37, .data⟩, ⟨36, .guard⟩], some (36, false)⟩ hHeld ?_
    try simp only [Act.put, List.setIfInBounds_toArray, List.set_cons_zero, List.set_cons_succ]
    refine tkN 39 ⟨some 46, .call { callee := .builtin .len, args := #[.tmp 45], argTypes := #[22] }, 3, "ref.go:22", #[⟨38, .data⟩, ⟨36, .guard⟩], some (36, false)⟩ hHeld ?_
    try simp only [Act.put, List.setIfInBounds_toArray, List.set_cons_zero, List.set_cons_succ]
    refine tkN 40 ⟨some 47, .move (.tmp 0), 3, "ref.go:22", #[⟨36, .guard⟩], some (36, false)⟩ hHeld ?_
    try simp only [Act.put, List.setIfInBounds_toArray, List.set_cons_zero, List.set_cons_succ]
    refine tkN 41 ⟨some 48, .binOp .neq 3 (.tmp 46) (.tmp 47) 3, 4, "ref.go:22", #[⟨39, .data⟩, ⟨40, .data⟩, ⟨36, .guard⟩], some (36, false)⟩ hHeld ?_
    try simp only [Act.put, List.setIfInBounds_toArray, List.set_cons_zero, List.set_cons_succ]
    refine tkY 42 ⟨some 49, .pick (.tmp 43) (.const (.bool true)) (.tmp 48), 4, "ref.go:22", #[⟨36, .data⟩, ⟨41, .data⟩], none⟩ ?v42z18 hHeld ?y42z18 ?r42z18
    case y42z18 => (intro w hSw; (try dsimp only at hSw); go_simp) <;> with_reducible rfl
    try simp only [Act.put, List.setIfInBounds_toArray, List.set_cons_zero, List.set_cons_succ]
    refine tkY 43 ⟨some 50, .move (.tmp 49), 4, "ref.go:22", #[⟨42, .data⟩, ⟨36, .chain⟩], none⟩ ?v43z19 hHeld ?y43z19 ?r43z19
    case y43z19 => (intro w hSw; (try dsimp only at hSw); go_simp) <;> with_reducible rfl
    try simp only [Act.put, List.setIfInBounds_toArray, List.set_cons_zero, List.set_cons_succ]
    refine tkN 44 ⟨some 51, .fieldAddr 25 (.tmp 3) 4, 0, "ref.go:22", #[⟨43, .guard⟩], some (43, false)⟩ hHeld ?_
    try simp only [Act.put, List.setIfInBounds_toArray, List.set_cons_zero, List.set_cons_succ]
    refine tkN 45 ⟨some 52, .load 22 (.tmp 51), 22, "ref.go:22", #[⟨44, .data⟩, ⟨43, .guard⟩], some (43, false)⟩ hHeld ?_
    try simp only [Act.put, List.setIfInBounds_toArray, List.set_cons_zero, List.set_cons_succ]
    refine tkN 46 ⟨some 53, .call { callee := .builtin .len, args := #[.tmp 52], argTypes := #[22] }, 3, "ref.go:22", #[⟨45, .data⟩, ⟨43, .guard⟩], some (43, false)⟩ hHeld ?_
    try simp only [Act.put, List.setIfInBounds_toArray, List.set_cons_zero, List.set_cons_succ]
    refine tkN 47 ⟨some 54, .move (.tmp 0), 3, "ref.go:22", #[⟨43, .guard⟩], some (43, false)⟩ hHeld ?_
    try simp only [Act.put, List.setIfInBounds_toArray, List.set_cons_zero, List.set_cons_succ]
    refine tkN 48 ⟨some 55, .binOp .neq 3 (.tmp 53) (.tmp 54) 3, 4, "ref.go:22", #[⟨46, .data⟩, ⟨47, .data⟩, ⟨43, .guard⟩], some (43, false)⟩ hHeld ?_
    try simp only [Act.put, List.setIfInBounds_toArray, List.set_cons_zero, List.set_cons_succ]
    refine tkY 49 ⟨some 56, .pick (.tmp 50) (.const (.bool true)) (.tmp 55), 4, "ref.go:22", #[⟨43, .data⟩, ⟨48, .data⟩], none⟩ ?v49z20 hHeld ?y49z20 ?r49z20
    case y49z20 => (intro w hSw; (try dsimp only at hSw); go_simp) <;> with_reducible rfl
    try simp only [Act.put, List.setIfInBounds_toArray, List.set_cons_zero, List.set_cons_succ]
    refine tkY 50 ⟨some 57, .move (.tmp 56), 4, "ref.go:22", #[⟨49, .data⟩, ⟨43, .chain⟩], none⟩ ?v50z21 hHeld ?y50z21 ?r50z21
    case y50z21 => (intro w hSw; (try dsimp only at hSw); go_simp) <;> with_reducible rfl
    try simp only [Act.put, List.setIfInBounds_toArray, List.set_cons_zero, List.set_cons_succ]
    refine tkN 51 ⟨some 58, .fieldAddr 25 (.tmp 3) 5, 0, "ref.go:22", #[⟨50, .guard⟩], some (50, false)⟩ hHeld ?_
    try simp only [Act.put, List.setIfInBounds_toArray, List.set_cons_zero, List.set_cons_succ]
    refine tkN 52 ⟨some 59, .load 23 (.tmp 58), 23, "ref.go:22", #[⟨51, .data⟩, ⟨50, .guard⟩], some (50, false)⟩ hHeld ?_
    try simp only [Act.put, List.setIfInBounds_toArray, List.set_cons_zero, List.set_cons_succ]
    refine tkN 53 ⟨some 60, .call { callee := .builtin .len, args := #[.tmp 59], argTypes := #[23] }, 3, "ref.go:22", #[⟨52, .data⟩, ⟨50, .guard⟩], some (50, false)⟩ hHeld ?_
    try simp only [Act.put, List.setIfInBounds_toArray, List.set_cons_zero, List.set_cons_succ]
    refine tkN 54 ⟨some 61, .fieldAddr 25 (.tmp 3) 0, 0, "ref.go:22", #[⟨50, .guard⟩], some (50, false)⟩ hHeld ?_
    try simp only [Act.put, List.setIfInBounds_toArray, List.set_cons_zero, List.set_cons_succ]
    refine tkN 55 ⟨some 62, .load 3 (.tmp 61), 3, "ref.go:22", #[⟨54, .data⟩, ⟨50, .guard⟩], some (50, false)⟩ hHeld ?_
    try simp only [Act.put, List.setIfInBounds_toArray, List.set_cons_zero, List.set_cons_succ]
    refine tkN 56 ⟨some 63, .call { callee := .value (.func 40), args := #[.tmp 62], argTypes := #[3] }, 3, "ref.go:22", #[⟨55, .data⟩, ⟨50, .chain⟩, ⟨50, .guard⟩], some (50, false)⟩ hHeld ?_
    try simp only [Act.put, List.setIfInBounds_toArray, List.set_cons_zero, List.set_cons_succ]
    refine tkN 57 ⟨some 64, .binOp .neq 3 (.tmp 60) (.tmp 63) 3, 4, "ref.go:22", #[⟨53, .data⟩, ⟨56, .data⟩, ⟨50, .guard⟩], some (50, false)⟩ hHeld ?_
    try simp only [Act.put, List.setIfInBounds_toArray, List.set_cons_zero, List.set_cons_succ]
    refine tkY 58 ⟨some 65, .pick (.tmp 57) (.const (.bool true)) (.tmp 64), 4, "ref.go:22", #[⟨50, .data⟩, ⟨57, .data⟩], none⟩ ?v58z22 hHeld ?y58z22 ?r58z22
    case y58z22 => (intro w hSw; (try dsimp only at hSw); go_simp) <;> with_reducible rfl
    try simp only [Act.put, List.setIfInBounds_toArray, List.set_cons_zero, List.set_cons_succ]
    refine wpAnyH_done (by kernel_rfl) ?_ _
    have HR : Hid (canB size ⟨e, t, c, tr, li, lk⟩ = false) := canB_no (by rintro ⟨q1, q2, q3, q4, q5, q6, q7, q8, q9, q10, q11, _⟩; dsimp only at q3 q4 q5 q6 q7 q8 q9 q10 q11; (try rw [HN.out] at q9); omega)
    have HW : Hid (Below w.heap.size w V.drew) := bA.trans (bD.mono bA.size)
    clear hHeld hcells bD bA k3 hLC
    go_wp2
    go_ret
    rw [HR.out]
    exact ⟨rfl, HW.out⟩
  · have d1 : decide (size < 1) = false := by simpa using hc1
    refine tkY 1 ⟨some 8, .binOp .lss 3 (.tmp 7) (.const (.int .i64 1)) 3, 4, "ref.go:22", #[⟨0, .data⟩], none⟩ ?v1z23 hHeld ?y1z23 ?r1z23
    case y1z23 => (intro w hSw; (try dsimp only at hSw); go_simp) <;> with_reducible rfl
    try simp only [Act.put, List.setIfInBounds_toArray, List.set_cons_zero, List.set_cons_succ]
    refine tkY 2 ⟨some 9, .move (.tmp 8), 4, "ref.go:22", #[⟨1, .data⟩], none⟩ ?v2z24 hHeld ?y2z24 ?r2z24
    case y2z24 => (intro w hSw; (try dsimp only at hSw); go_simp) <;> with_reducible rfl
    try simp only [Act.put, List.setIfInBounds_toArray, List.set_cons_zero, List.set_cons_succ]
    refine tkY 3 ⟨some 10, .move (.tmp 0), 3, "ref.go:22", #[⟨2, .guard⟩], some (2, false)⟩ ?v3z25 hHeld ?y3z25 ?r3z25
    case y3z25 => (intro w hSw; (try dsimp only at hSw); go_simp) <;> with_reducible rfl
    try simp only [Act.put, List.setIfInBounds_toArray, List.set_cons_zero, List.set_cons_succ]
    by_cases hc4 : (32 : Int) < size
    · refine tkY 4 ⟨some 11, .binOp .gtr 3 (.tmp 10) (.const (.int .i64 32)) 3, 4, "ref.go:22", #[⟨3, .data⟩, ⟨2, .guard⟩], some (2, false)⟩ ?v4z26 hHeld ?y4z26 ?r4z26
      case y4z26 => (intro w hSw; (try dsimp only at hSw); go_simp) <;> with_reducible rfl
      try simp only [Act.put, List.setIfInBounds_toArray, List.set_cons_zero, List.set_cons_succ]
      refine tkY 5 ⟨some 12, .pick (.tmp 9) (.const (.bool true)) (.tmp 11), 4, "ref.go:22", #[⟨2, .data⟩, ⟨4, .data⟩], none⟩ ?v5z27 hHeld ?y5z27 ?r5z27
      case y5z27 => (intro w hSw; (try dsimp only at hSw); go_simp) <;> with_reducible rfl
      try simp only [Act.put, List.setIfInBounds_toArray, List.set_cons_zero, List.set_cons_succ]
      refine tkY 6 ⟨some 13, .move (.tmp 12), 4, "ref.go:22", #[⟨5, .data⟩, ⟨2, .chain⟩], none⟩ ?v6z28 hHeld ?y6z28 ?r6z28
      case y6z28 => (intro w hSw; (try dsimp only at hSw); go_simp) <;> with_reducible rfl
      try simp only [Act.put, List.setIfInBounds_toArray, List.set_cons_zero, List.set_cons_succ]
      refine tkN 7 ⟨some 14, .fieldAddr 25 (.tmp 3) 0, 0, "ref.go:22", #[⟨6, .guard⟩], some (6, false)⟩ hHeld ?_
      try simp only [Act.put, List.setIfInBounds_toArray, List.set_cons_zero, List.set_cons_succ]
      refine tkN 8 ⟨some 15, .load 3 (.tmp 14), 3, "ref.go:22", #[⟨7, .data⟩, ⟨6, .guard⟩], some (6, false)⟩ hHeld ?_
      try simp only [Act.put, List.setIfInBounds_toArray, List.set_cons_zero, List.set_cons_succ]
      refine tkN 9 ⟨some 16, .binOp .lss 3 (.tmp 15) (.const (.int .i64 0)) 3, 4, "ref.go:22", #[⟨8, .data⟩, ⟨6, .guard⟩], some (6, false)⟩ hHeld ?_
      try simp only [Act.put, List.setIfInBounds_toArray, List.set_cons_zero, List.set_cons_succ]
      refine tkY 10 ⟨some 17, .pick (.tmp 13) (.const (.bool true)) (.tmp 16), 4, "ref.go:22", #[⟨6, .data⟩, ⟨9, .data⟩], none⟩ ?v10z29 hHeld ?y10z29 ?r10z29
      case y10z29 => (intro w hSw; (try dsimp only at hSw); go_simp) <;> with_reducible rfl
      try simp only [Act.put, List.setIfInBounds_toArray, List.set_cons_zero, List.set_cons_succ]
      refine tkY 11 ⟨some 18, .move (.tmp 17), 4, "ref.go:22", #[⟨10, .data⟩, ⟨6, .chain⟩], none⟩ ?v11z30 hHeld ?y11z30 ?r11z30
      case y11z30 => (intro w hSw; (try dsimp only at hSw); go_simp) <;> with_reducible rfl
      try simp only [Act.put, List.setIfInBounds_toArray, List.set_cons_zero, List.set_cons_succ]
      refine tkN 12 ⟨some 19, .fieldAddr 25 (.tmp 3) 0, 0, "ref.go:22", #[⟨11, .guard⟩], some (11, false)⟩ hHeld ?_
      try simp only [Act.put, List.setIfInBounds_toArray, List.set_cons_zero, List.set_cons_succ]
      refine tkN 13 ⟨some 20, .load 3 (.tmp 19), 3, "ref.go:22", #[⟨12, .data⟩, ⟨11, .guard⟩], some (11, false)⟩ hHeld ?_
      try simp only [Act.put, List.setIfInBounds_toArray, List.set_cons_zero, List.set_cons_succ]
      refine tkN 14 ⟨some 21, .binOp .gtr 3 (.tmp 20) (.const (.int .i64 255)) 3, 4, "ref.go:22", #[⟨13, .data⟩, ⟨11, .guard⟩], some (11, false)⟩ hHeld ?_
      try simp only [Act.put, List.setIfInBounds_toArray, List.set_cons_zero, List.set_cons_succ]
      refine tkY 15 ⟨some 22, .pick (.tmp 18) (.const (.bool true)) (.tmp 21), 4, "ref.go:22", #[⟨11, .data⟩, ⟨14, .data⟩], none⟩ ?v15z31 hHeld ?y15z31 ?r15z31
      case y15z31 => (intro w hSw; (try dsimp only at hSw); go_simp) <;> with_reducible rfl
      try simp only [Act.put, List.setIfInBounds_toArray, List.set_cons_zero, List.set_cons_succ]
      refine tkY 16 ⟨some 23, .move (.tmp 22), 4, "ref.go:22", #[⟨15, .data⟩, ⟨11, .chain⟩], none⟩ ?v16z32 hHeld ?y16z32 ?r16z32
      case y16z32 => (intro w hSw; (try dsimp only at hSw); go_simp) <;> with_reducible rfl
      try simp only [Act.put, List.setIfInBounds_toArray, List.set_cons_zero, List.set_cons_succ]
      refine tkN 17 ⟨some 24, .fieldAddr 25 (.tmp 3) 1, 0, "ref.go:22", #[⟨16, .guard⟩], some (16, false)⟩ hHeld ?_
      try simp only [Act.put, List.setIfInBounds_toArray, List.set_cons_zero, List.set_cons_succ]
      refine tkN 18 ⟨some 25, .load 3 (.tmp 24), 3, "ref.go:22", #[⟨17, .data⟩, ⟨16, .guard⟩], some (16, false)⟩ hHeld ?_
      try simp only [Act.put, List.setIfInBounds_toArray, List.set_cons_zero, List.set_cons_succ]
      refine tkN 19 ⟨some 26, .binOp .lss 3 (.tmp 25) (.const (.int .i64 0)) 3, 4, "ref.go:22", #[⟨18, .data⟩, ⟨16, .guard⟩], some (16, false)⟩ hHeld ?_
      try simp only [Act.put, List.setIfInBounds_toArray, List.set_cons_zero, List.set_cons_succ]
      refine tkY 20 ⟨some 27, .pick (.tmp 23) (.const (.bool true)) (.tmp 26), 4, "ref.go:22", #[⟨16, .data⟩, ⟨19, .data⟩], none⟩ ?v20z33 hHeld ?y20z33 ?r20z33
      case y20z33 => (intro w hSw; (try dsimp only at hSw); go_simp) <;> with_reducible rfl
      try simp only [Act.put, List.setIfInBounds_toArray, List.set_cons_zero, List.set_cons_succ]
      refine tkY 21 ⟨some 28, .move (.tmp 27), 4, "ref.go:22", #[⟨20, .data⟩, ⟨16, .chain⟩], none⟩ ?v21z34 hHeld ?y21z34 ?r21z34
      case y21z34 => (intro w hSw; (try dsimp only at hSw); go_simp) <;> with_reducible rfl
      try simp only [Act.put, List.setIfInBounds_toArray, List.set_cons_zero, List.set_cons_succ]
      refine tkN 22 ⟨some 29, .fieldAddr 25 (.tmp 3) 1, 0, "ref.go:22", #[⟨21, .guard⟩], some (21, false)⟩ hHeld ?_
      try simp only [Act.put, List.setIfInBounds_toArray, List.set_cons_zero, List.set_cons_succ]
      refine tkN 23 ⟨some 30, .load 3 (.tmp 29), 3, "ref.go:22", #[⟨22, .data⟩, ⟨21, .guard⟩], some (21, false)⟩ hHeld ?_
      try simp only [Act.put, List.setIfInBounds_toArray, List.set_cons_zero, List.set_cons_succ]
      refine tkN 24 ⟨some 31, .binOp .gtr 3 (.tmp 30) (.const (.int .i64 1125899906842624)) 3, 4, "ref.go:22", #[⟨23, .data⟩, ⟨21, .guard⟩], some (21, false)⟩ hHeld ?_
      try simp only [Act.put, List.setIfInBounds_toArray, List.set_cons_zero, List.set_cons_succ]
      refine tkY 25 ⟨some 32, .pick (.tmp 28) (.const (.bool true)) (.tmp 31), 4, "ref.go:22", #[⟨21, .data⟩, ⟨24, .data⟩], none⟩ ?v25z35 hHeld ?y25z35 ?r25z35
      case y25z35 => (intro w hSw; (try dsimp only at hSw); go_simp) <;> with_reducible rfl
      try simp only [Act.put, List.setIfInBounds_toArray, List.set_cons_zero, List.set_cons_succ]
      refine tkY 26 ⟨some 33, .move (.tmp 32), 4, "ref.go:22", #[⟨25, .data⟩, ⟨21, .chain⟩], none⟩ ?v26z36 hHeld ?y26z36 ?r26z36
      case y26z36 => (intro w hSw; (try dsimp only at hSw); go_simp) <;> with_reducible rfl
      try simp only [Act.put, List.setIfInBounds_toArray, List.set_cons_zero, List.set_cons_succ]
      refine tkN 27 ⟨some 34, .fieldAddr 25 (.tmp 3) 3, 0, "ref.go:22", #[⟨26, .guard⟩], some (26, false)⟩ hHeld ?_
      try simp only [Act.put, List.setIfInBounds_toArray, List.set_cons_zero, List.set_cons_succ]
      refine tkN 28 ⟨some 35, .load 3 (.tmp 34), 3, "ref.go:22", #[⟨27, .data⟩, ⟨26, .guard⟩], some (26, false)⟩ hHeld ?_
      try simp only [Act.put, List.setIfInBounds_toArray, List.set_cons_zero, List.set_cons_succ]
      refine tkN 29 ⟨some 36, .binOp .lss 3 (.tmp 35) (.const (.int .i64 0)) 3, 4, "ref.go:22", #[⟨28, .data⟩, ⟨26, .guard⟩], some (26, false)⟩ hHeld ?_
      try simp only [Act.put, List.setIfInBounds_toArray, List.set_cons_zero, List.set_cons_succ]
      refine tkY 30 ⟨some 37, .pick (.tmp 33) (.const (.bool true)) (.tmp 36), 4, "ref.go:22", #[⟨26, .data⟩, ⟨29, .data⟩], none⟩ ?v30z37 hHeld ?y30z37 ?r30z37
      case y30z37 => (intro w hSw; (try dsimp only at hSw); go_simp) <;> with_reducible rfl
      try simp only [Act.put, List.setIfInBounds_toArray, List.set_cons_zero, List.set_cons_succ]
      refine tkY 31 ⟨some 38, .move (.tmp 37), 4, "ref.go:22", #[⟨30, .data⟩, ⟨26, .chain⟩], none⟩ ?v31z38 hHeld ?y31z38 ?r31z38
      case y31z38 => (intro w hSw; (try dsimp only at hSw); go_simp) <;> with_reducible rfl
      try simp only [Act.put, List.setIfInBounds_toArray, List.set_cons_zero, List.set_cons_succ]
      refine tkN 32 ⟨some 39, .fieldAddr 25 (.tmp 3) 3, 0, "ref.go:22", #[⟨31, .guard⟩], some (31, false)⟩ hHeld ?_
      try simp only [Act.put, List.setIfInBounds_toArray, List.set_cons_zero, List.set_cons_succ]
      refine tkN 33 ⟨some 40, .load 3 (.tmp 39), 3, "ref.go:22", #[⟨32, .data⟩, ⟨31, .guard⟩], some (31, false)⟩ hHeld ?_
      try simp only [Act.put, List.setIfInBounds_toArray, List.set_cons_zero, List.set_cons_succ]
      refine tkN 34 ⟨some 41, .binOp .gtr 3 (.tmp 40) (.const (.int .i64 32)) 3, 4, "ref.go:22", #[⟨33, .data⟩, ⟨31, .guard⟩], some (31, false)⟩ hHeld ?_
      try simp only [Act.put, List.setIfInBounds_toArray, List.set_cons_zero, List.set_cons_succ]
      refine tkY 35 ⟨some 42, .pick (.tmp 38) (.const (.bool true)) (.tmp 41), 4, "ref.go:22", #[⟨31, .data⟩, ⟨34, .data⟩], none⟩ ?v35z39 hHeld ?y35z39 ?r35z39
      case y35z39 => (intro w hSw; (try dsimp only at hSw); go_simp) <;> with_reducible rfl
      try simp only [Act.put, List.setIfInBounds_toArray, List.set_cons_zero, List.set_cons_succ]
      refine tkY 36 ⟨some 43, .move (.tmp 42), 4, "ref.go:22", #[⟨35, .data⟩, ⟨31, .chain⟩], none⟩ ?v36z40 hHeld ?y36z40 ?r36z40
      case y36z40 => (intro w hSw; (try dsimp only at hSw); go_simp) <;> with_reducible rfl
      try simp only [Act.put, List.setIfInBounds_toArray, List.set_cons_zero, List.set_cons_succ]
      refine tkN 37 ⟨some 44, .fieldAddr 25 (.tmp 3) 2, 0, "ref.go:22", #[⟨36, .guard⟩], some (36, false)⟩ hHeld ?_
      try simp only [Act.put, List.setIfInBounds_toArray, List.set_cons_zero, List.set_cons_succ]
      refine tkN 38 ⟨some 45, .load 22 (.tmp 44), 22, "ref.go:22", #[⟨37, .data⟩, ⟨36, .guard⟩], some (36, false)⟩ hHeld ?_
      try simp only [Act.put, List.setIfInBounds_toArray, List.set_cons_zero, List.set_cons_succ]
      refine tkN 39 ⟨some 46, .call { callee := .builtin .len, args := #[.tmp 45], argTypes := #[22] }, 3, "ref.go:22", #[⟨38, .data⟩, ⟨36, .guard⟩], some (36, false)⟩ hHeld ?_
      try simp only [Act.put, List.setIfInBounds_toArray, List.set_cons_zero, List.set_cons_succ]
      refine tkN 40 ⟨some 47, .move (.tmp 0), 3, "ref.go:22", #[⟨36, .guard⟩], some (36, false)⟩ hHeld ?_
      try simp only [Act.put, List.setIfInBounds_toArray, List.set_cons_zero, List.set_cons_succ]
      refine tkN 41 ⟨some 48, .binOp .neq 3 (.tmp 46) (.tmp 47) 3, 4, "ref.go:22", #[⟨39, .data⟩, ⟨40, .data⟩, ⟨36, .guard⟩], some (36, false)⟩ hHeld ?_
      try simp only [Act.put, List.setIfInBounds_toArray, List.set_cons_zero, List.set_cons_succ]
      refine tkY 42 ⟨some 49, .pick (.tmp 43) (.const (.bool true)) (.tmp 48), 4, "ref.go:22", #[⟨36, .data⟩, ⟨41, .data⟩], none⟩ ?v42z41 hHeld ?y42z41 ?r42z41
      case y42z41 => (intro w hSw; (try dsimp only at hSw); go_simp) <;> with_reducible rfl
      try simp only [Act.put, List.setIfInBounds_toArray, List.set_cons_zero, List.set_cons_succ]
      refine tkY 43 ⟨some 50, .move (.tmp 49), 4, "ref.go:22", #[⟨42, .data⟩, ⟨36, .chain⟩], none⟩ ?v43z42 hHeld ?y43z42 ?r43z42
      case y43z42 => (intro w hSw; (try dsimp only at hSw); go_simp) <;> with_reducible rfl
      try simp only [Act.put, List.setIfInBounds_toArray, List.set_cons_zero, List.set_cons_succ]
      refine tkN 44 ⟨some 51, .fieldAddr 25 (.tmp 3) 4, 0, "ref.go:22", #[⟨43, .guard⟩], some (43, false)⟩ hHeld ?_
      try simp only [Act.put, List.setIfInBounds_toArray, List.set_cons_zero, List.set_cons_succ]
      refine tkN 45 ⟨some 52, .load 22 (.tmp 51), 22, "ref.go:22", #[⟨44, .data⟩, ⟨43, .guard⟩], some (43, false)⟩ hHeld ?_
      try simp only [Act.put, List.setIfInBounds_toArray, List.set_cons_zero, List.set_cons_succ]
      refine tkN 46 ⟨some 53, .call { callee := .builtin .len, args := #[.tmp 52], argTypes := #[22] }, 3, "ref.go:22", #[⟨45, .data⟩, ⟨43, .guard⟩], some (43, false)⟩ hHeld ?_
      try simp only [Act.put, List.setIfInBounds_toArray, List.set_cons_zero, List.set_cons_succ]
      refine tkN 47 ⟨some 54, .move (.tmp 0), 3, "ref.go:22", #[⟨43, .guard⟩], some (43, false)⟩ hHeld ?_
      try simp only [Act.put, List.setIfInBounds_toArray, List.set_cons_zero, List.set_cons_succ]
      refine tkN 48 ⟨some 55, .binOp .neq 3 (.tmp 53) (.tmp 54) 3, 4, "ref.go:22", #[⟨46, .data⟩, ⟨47, .data⟩, ⟨43, .guard⟩], some (43, false)⟩ hHeld ?_
      try simp only [Act.put, List.setIfInBounds_toArray, List.set_cons_zero, List.set_cons_succ]
      refine tkY 49 ⟨some 56, .pick (.tmp 50) (.const (.bool true)) (.tmp 55), 4, "ref.go:22", #[⟨43, .data⟩, ⟨48, .data⟩], none⟩ ?v49z43 hHeld ?y49z43 ?r49z43
      case y49z43 => (intro w hSw; (try dsimp only at hSw); go_simp) <;> with_reducible rfl
      try simp only [Act.put, List.setIfInBounds_toArray, List.set_cons_zero, List.set_cons_succ]
      refine tkY 50 ⟨some 57, .move (.tmp 56), 4, "ref.go:22", #[⟨49, .data⟩, ⟨43, .chain⟩], none⟩ ?v50z44 hHeld ?y50z44 ?r50z44
      case y50z44 => (intro w hSw; (try dsimp only at hSw); go_simp) <;> with_reducible rfl
      try simp only [Act.put, List.setIfInBounds_toArray, List.set_cons_zero, List.set_cons_succ]
      refine tkN 51 ⟨some 58, .fieldAddr 25 (.tmp 3) 5, 0, "ref.go:22", #[⟨50, .guard⟩], some (50, false)⟩ hHeld ?_
      try simp only [Act.put, List.setIfInBounds_toArray, List.set_cons_zero, List.set_cons_succ]
      refine tkN 52 ⟨some 59, .load 23 (.tmp 58), 23, "ref.go:22", #[⟨51, .data⟩, ⟨50, .guard⟩], some (50, false)⟩ hHeld ?_
      try simp only [Act.put, List.setIfInBounds_toArray, List.set_cons_zero, List.set_cons_succ]
      refine tkN 53 ⟨some 60, .call { callee := .builtin .len, args := #[.tmp 59], argTypes := #[23] }, 3, "ref.go:22", #[⟨52, .data⟩, ⟨50, .guard⟩], some (50, false)⟩ hHeld ?_
      try simp only [Act.put, List.setIfInBounds_toArray, List.set_cons_zero, List.set_cons_succ]
      refine tkN 54 ⟨some 61, .fieldAddr 25 (.tmp 3) 0, 0, "ref.go:22", #[⟨50, .guard⟩], some (50, false)⟩ hHeld ?_
      try simp only [Act.put, List.setIfInBounds_toArray, List.set_cons_zero, List.set_cons_succ]
      refine tkN 55 ⟨some 62, .load 3 (.tmp 61), 3, "ref.go:22", #[⟨54, .data⟩, ⟨50, .guard⟩], some (50, false)⟩ hHeld ?_
      try simp only [Act.put, List.setIfInBounds_toArray, List.set_cons_zero, List.set_cons_succ]
      refine tkN 56 ⟨some 63, .call { callee := .value (.func 40), args := #[.tmp 62], argTypes := #[3] }, 3, "ref.go:22", #[⟨55, .data⟩, ⟨50, .chain⟩, ⟨50, .guard⟩], some (50, false)⟩ hHeld ?_
      try simp only [Act.put, List.setIfInBounds_toArray, List.set_cons_zero, List.set_cons_succ]
      refine tkN 57 ⟨some 64, .binOp .neq 3 (.tmp 60) (.tmp 63) 3, 4, "ref.go:22", #[⟨53, .data⟩, ⟨56, .data⟩, ⟨50, .guard⟩], some (50, false)⟩ hHeld ?_
      try simp only [Act.put, List.setIfInBounds_toArray, List.set_cons_zero, List.set_cons_succ]
      refine tkY 58 ⟨some 65, .pick (.tmp 57) (.const (.bool true)) (.tmp 64), 4, "ref.go:22", #[⟨50, .data⟩, ⟨57, .data⟩], none⟩ ?v58z45 hHeld ?y58z45 ?r58z45
      case y58z45 => (intro w hSw; (try dsimp only at hSw); go_simp) <;> with_reducible rfl
      try simp only [Act.put, List.setIfInBounds_toArray, List.set_cons_zero, List.set_cons_succ]
      refine wpAnyH_done (by kernel_rfl) ?_ _
      have HR : Hid (canB size ⟨e, t, c, tr, li, lk⟩ = false) := canB_no (by rintro ⟨q1, q2, q3, q4, q5, q6, q7, q8, q9, q10, q11, _⟩; dsimp only at q3 q4 q5 q6 q7 q8 q9 q10 q11; (try rw [HN.out] at q9); omega)
      have HW : Hid (Below w.heap.size w V.drew) := bA.trans (bD.mono bA.size)
      clear hHeld hcells bD bA k3 hLC
      go_wp2
      go_ret
      rw [HR.out]
      exact ⟨rfl, HW.out⟩
    · have d4 : decide ((32 : Int) < size) = false := by simpa using hc4
      refine tkY 4 ⟨some 11, .binOp .gtr 3 (.tmp 10) (.const (.int .i64 32)) 3, 4, "ref.go:22", #[⟨3, .data⟩, ⟨2, .guard⟩], some (2, false)⟩ ?v4z46 hHeld ?y4z46 ?r4z46
      case y4z46 => (intro w hSw; (try dsimp only at hSw); go_simp) <;> with_reducible rfl
      try simp only [Act.put, List.setIfInBounds_toArray, List.set_cons_zero, List.set_cons_succ]
      refine tkY 5 ⟨some 12, .pick (.tmp 9) (.const (.bool true)) (.tmp 11), 4, "ref.go:22", #[⟨2, .data⟩, ⟨4, .data⟩], none⟩ ?v5z47 hHeld ?y5z47 ?r5z47
      case y5z47 => (intro w hSw; (try dsimp only at hSw); go_simp) <;> with_reducible rfl
      try simp only [Act.put, List.setIfInBounds_toArray, List.set_cons_zero, List.set_cons_succ]
      refine tkY 6 ⟨some 13, .move (.tmp 12), 4, "ref.go:22", #[⟨5, .data⟩, ⟨2, .chain⟩], none⟩ ?v6z48 hHeld ?y6z48 ?r6z48
      case y6z48 => (intro w hSw; (try dsimp only at hSw); go_simp) <;> with_reducible rfl
      try simp only [Act.put, List.setIfInBounds_toArray, List.set_cons_zero, List.set_cons_succ]
      refine tkY 7 ⟨some 14, .fieldAddr 25 (.tmp 3) 0, 0, "ref.go:22", #[⟨6, .guard⟩], some (6, false)⟩ ?v7z49 hHeld ?y7z49 ?r7z49
      case y7z49 => (intro w hSw; (try dsimp only at hSw); go_simp) <;> with_reducible rfl
      try simp only [Act.put, List.setIfInBounds_toArray, List.set_cons_zero, List.set_cons_succ]
      refine tkY 8 ⟨some 15, .load 3 (.tmp 14), 3, "ref.go:22", #[⟨7, .data⟩, ⟨6, .guard⟩], some (6, false)⟩ ?v8z50 hHeld ?y8z50 ?r8z50
      case y8z50 => (intro w hSw; (try dsimp only at hSw); go_simp) <;> with_reducible rfl
      try simp only [Act.put, List.setIfInBounds_toArray, List.set_cons_zero, List.set_cons_succ]
      by_cases hc9 : e < 0
      · refine tkY 9 ⟨some 16, .binOp .lss 3 (.tmp 15) (.const (.int .i64 0)) 3, 4, "ref.go:22", #[⟨8, .data⟩, ⟨6, .guard⟩], some (6, false)⟩ ?v9z51 hHeld ?y9z51 ?r9z51
        case y9z51 => (intro w hSw; (try dsimp only at hSw); go_simp) <;> with_reducible rfl
        try simp only [Act.put, List.setIfInBounds_toArray, List.set_cons_zero, List.set_cons_succ]
        refine tkY 10 ⟨some 17, .pick (.tmp 13) (.const (.bool true)) (.tmp 16), 4, "ref.go:22", #[⟨6, .data⟩, ⟨9, .data⟩], none⟩ ?v10z52 hHeld ?y10z52 ?r10z52
        case y10z52 => (intro w hSw; (try dsimp only at hSw); go_simp) <;> with_reducible rfl
        try simp only [Act.put, List.setIfInBounds_toArray, List.set_cons_zero, List.set_cons_succ]
        refine tkY 11 ⟨some 18, .move (.tmp 17), 4, "ref.go:22", #[⟨10, .data⟩, ⟨6, .chain⟩], none⟩ ?v11z53 hHeld ?y11z53 ?r11z53
        case y11z53 => (intro w hSw; (try dsimp only at hSw); go_simp) <;> with_reducible rfl
        try simp only [Act.put, List.setIfInBounds_toArray, List.set_cons_zero, List.set_cons_succ]
        refine tkN 12 ⟨some 19, .fieldAddr 25 (.tmp 3) 0, 0, "ref.go:22", #[⟨11, .guard⟩], some (11, false)⟩ hHeld ?_
        try simp only [Act.put, List.setIfInBounds_toArray, List.set_cons_zero, List.set_cons_succ]
        refine tkN 13 ⟨some 20, .load 3 (.tmp 19), 3, "ref.go:22", #[⟨12, .data⟩, ⟨11, .guard⟩], some (11, false)⟩ hHeld ?_
        try simp only [Act.put, List.setIfInBounds_toArray, List.set_cons_zero, List.set_cons_succ]
        refine tkN 14 ⟨some 21, .binOp .gtr 3 (.tmp 20) (.const (.int .i64 255)) 3, 4, "ref.go:22", #[⟨13, .data⟩, ⟨11, .guard⟩], some (11, false)⟩ hHeld ?_
        try simp only [Act.put, List.setIfInBounds_toArray, List.set_cons_zero, List.set_cons_succ]
        refine tkY 15 ⟨some 22, .pick (.tmp 18) (.const (.bool true)) (.tmp 21), 4, "ref.go:22", #[⟨11, .data⟩, ⟨14, .data⟩], none⟩ ?v15z54 hHeld ?y15z54 ?r15z54
        case y15z54 => (intro w hSw; (try dsimp only at hSw); go_simp) <;> with_reducible rfl
        try simp only [Act.put, List.setIfInBounds_toArray, List.set_cons_zero, List.set_cons_succ]
        refine tkY 16 ⟨some 23, .move (.tmp 22), 4, "ref.go:22", #[⟨15, .data⟩, ⟨11, .chain⟩], none⟩ ?v16z55 hHeld ?y16z55 ?r16z55
        case y16z55 => (intro w hSw; (try dsimp only at hSw); go_simp) <;> with_reducible rfl
        try simp only [Act.put, List.setIfInBounds_toArray, List.set_cons_zero, List.set_cons_succ]
        refine tkN 17 ⟨some 24, .fieldAddr 25 (.tmp 3) 1, 0, "ref.go:22", #[⟨16, .guard⟩], some (16, false)⟩ hHeld ?_
        try simp only [Act.put, List.setIfInBounds_toArray, List.set_cons_zero, List.set_cons_succ]
        refine tkN 18 ⟨some 25, .load 3 (.tmp 24), 3, "ref.go:22", #[⟨17, .data⟩, ⟨16, .guard⟩], some (16, false)⟩ hHeld ?_
        try simp only [Act.put, List.setIfInBounds_toArray, List.set_cons_zero, List.set_cons_succ]
        refine tkN 19 ⟨some 26, .binOp .lss 3 (.tmp 25) (.const (.int .i64 0)) 3, 4, "ref.go:22", #[⟨18, .data⟩, ⟨16, .guard⟩], some (16, false)⟩ hHeld ?_
        try simp only [Act.put, List.setIfInBounds_toArray, List.set_cons_zero, List.set_cons_succ]
        refine tkY 20 ⟨some 27, .pick (.tmp 23) (.const (.bool true)) (.tmp 26), 4, "ref.go:22", #[⟨16, .data⟩, ⟨19, .data⟩], none⟩ ?v20z56 hHeld ?y20z56 ?r20z56
        case y20z56 => (intro w hSw; (try dsimp only at hSw); go_simp) <;> with_reducible rfl
        try simp only [Act.put, List.setIfInBounds_toArray, List.set_cons_zero, List.set_cons_succ]
        refine tkY 21 ⟨some 28, .move (.tmp 27), 4, "ref.go:22", #[⟨20, .data⟩, ⟨16, .chain⟩], none⟩ ?v21z57 hHeld ?y21z57 ?r21z57
        case y21z57 => (intro w hSw; (try dsimp only at hSw); go_simp) <;> with_reducible rfl
        try simp only [Act.put, List.setIfInBounds_toArray, List.set_cons_zero, List.set_cons_succ]
        refine tkN 22 ⟨some 29, .fieldAddr 25 (.tmp 3) 1, 0, "ref.go:22", #[⟨21, .guard⟩], some (21, false)⟩ hHeld ?_
        try simp only [Act.put, List.setIfInBounds_toArray, List.set_cons_zero, List.set_cons_succ]
        refine tkN 23 ⟨some 30, .load 3 (.tmp 29), 3, "ref.go:22", #[⟨22, .data⟩, ⟨21, .guard⟩], some (21, false)⟩ hHeld ?_
        try simp only [Act.put, List.setIfInBounds_toArray, List.set_cons_zero, List.set_cons_succ]
        refine tkN 24 ⟨some 31, .binOp .gtr 3 (.tmp 30) (.const (.int .i64 1125899906842624)) 3, 4, "ref.go:22", #[⟨23, .data⟩, ⟨21, .guard⟩], some (21, false)⟩ hHeld ?_
        try simp only [Act.put, List.setIfInBounds_toArray, List.set_cons_zero, List.set_cons_succ]
        refine tkY 25 ⟨some 32, .pick (.tmp 28) (.const (.bool true)) (.tmp 31), 4, "ref.go:22", #[⟨21, .data⟩, ⟨24, .data⟩], none⟩ ?v25z58 hHeld ?y25z58 ?r25z58
        case y25z58 => (intro w hSw; (try dsimp only at hSw); go_simp) <;> with_reducible rfl
        try simp only [Act.put, List.setIfInBounds_toArray, List.set_cons_zero, List.set_cons_succ]
        refine tkY 26 ⟨some 33, .move (.tmp 32), 4, "ref.go:22", #[⟨25, .data⟩, ⟨21, .chain⟩], none⟩ ?v26z59 hHeld ?y26z59 ?r26z59
        case y26z59 => (intro w hSw; (try dsimp only at hSw); go_simp) <;> with_reducible rfl
        try simp only [Act.put, List.setIfInBounds_toArray, List.set_cons_zero, List.set_cons_succ]
        refine tkN 27 ⟨some 34, .fieldAddr 25 (.tmp 3) 3, 0, "ref.go:22", #[⟨26, .guard⟩], some (26, false)⟩ hHeld ?_
        try simp only [Act.put, List.setIfInBounds_toArray, List.set_cons_zero, List.set_cons_succ]
        refine tkN 28 ⟨some 35, .load 3 (.tmp 34), 3, "ref.go:22", #[⟨27, .data⟩, ⟨26, .guard⟩], some (26, false)⟩ hHeld ?_
        try simp only [Act.put, List.setIfInBounds_toArray, List.set_cons_zero, List.set_cons_succ]
        refine tkN 29 ⟨some 36, .binOp .lss 3 (.tmp 35) (.const (.int .i64 0)) 3, 4, "ref.go:22", #[⟨28, .data⟩, ⟨26, .guard⟩], some (26, false)⟩ hHeld ?_
        try simp only [Act.put, List.setIfInBounds_toArray, List.set_cons_zero, List.set_cons_succ]
        refine tkY 30 ⟨some 37, .pick (.tmp 33) (.const (.bool true)) (.tmp 36), 4, "ref.go:22", #[⟨26, .data⟩, ⟨29, .data⟩], none⟩ ?v30z60 hHeld ?y30z60 ?r30z60
        case y30z60 => (intro w hSw; (try dsimp only at hSw); go_simp) <;> with_reducible rfl
        try simp only [Act.put, List.setIfInBounds_toArray, List.set_cons_zero, List.set_cons_succ]
        refine tkY 31 ⟨some 38, .move (.tmp 37), 4, "ref.go:22", #[⟨30, .data⟩, ⟨26, .chain⟩], none⟩ ?v31z61 hHeld ?y31z61 ?r31z61
        case y31z61 => (intro w hSw; (try dsimp only at hSw); go_simp) <;> with_reducible rfl
        try simp only [Act.put, List.setIfInBounds_toArray, List.set_cons_zero, List.set_cons_succ]
        refine tkN 32 ⟨some 39, .fieldAddr 25 (.tmp 3) 3, 0, "ref.go:22", #[⟨31, .guard⟩], some (31, false)⟩ hHeld ?_
        try simp only [Act.put, List.setIfInBounds_toArray, List.set_cons_zero, List.set_cons_succ]
        refine tkN 33 ⟨some 40, .load 3 (.tmp 39), 3, "ref.go:22", #[⟨32, .data⟩, ⟨31, .guard⟩], some (31, false)⟩ hHeld ?_
        try simp only [Act.put, List.setIfInBounds_toArray, List.set_cons_zero, List.set_cons_succ]
        refine tkN 34 ⟨some 41, .binOp .gtr 3 (.tmp 40) (.const (.int .i64 32)) 3, 4, "ref.go:22", #[⟨33, .data⟩, ⟨31, .guard⟩], some (31, false)⟩ hHeld ?_
        try simp only [Act.put, List.setIfInBounds_toArray, List.set_cons_zero, List.set_cons_succ]
        refine tkY 35 ⟨some 42, .pick (.tmp 38) (.const (.bool true)) (.tmp 41), 4, "ref.go:22", #[⟨31, .data⟩, ⟨34, .data⟩], none⟩ ?v35z62 hHeld ?y35z62 ?r35z62
        case y35z62 => (intro w hSw; (try dsimp only at hSw); go_simp) <;> with_reducible rfl
        try simp only [Act.put, List.setIfInBounds_toArray, List.set_cons_zero, List.set_cons_succ]
        refine tkY 36 ⟨some 43, .move (.tmp 42), 4, "ref.go:22", #[⟨35, .data⟩, ⟨31, .chain⟩], none⟩ ?v36z63 hHeld ?y36z63 ?r36z63
        case y36z63 => (intro w hSw; (try dsimp only at hSw); go_simp) <;> with_reducible rfl
        try simp only [Act.put, List.setIfInBounds_toArray, List.set_cons_zero, List.set_cons_succ]
        refine tkN 37 ⟨some 44, .fieldAddr 25 (.tmp 3) 2, 0, "ref.go:22", #[⟨36, .guard⟩], some (36, false)⟩ hHeld ?_
        try simp only [Act.put, List.setIfInBounds_toArray, List.set_cons_zero, List.set_cons_succ]
        refine tkN 38 ⟨some 45, .load 22 (.tmp 44), 22, "ref.go:22", #[⟨37, .data⟩, ⟨36, .guard⟩], some (36, false)⟩ hHeld ?_
        try simp only [Act.put, List.setIfInBounds_toArray, List.set_cons_zero, List.set_cons_succ]
        refine tkN 39 ⟨some 46, .call { callee := .builtin .len, args := #[.tmp 45], argTypes := #[22] }, 3, "ref.go:22", #[⟨38, .data⟩, ⟨36, .guard⟩], some (36, false)⟩ hHeld ?_
        try simp only [Act.put, List.setIfInBounds_toArray, List.set_cons_zero, List.set_cons_succ]
        refine tkN 40 ⟨some 47, .move (.tmp 0), 3, "ref.go:22", #[⟨36, .guard⟩], some (36, false)⟩ hHeld ?_
        try simp only [Act.put, List.setIfInBounds_toArray, List.set_cons_zero, List.set_cons_succ]
        refine tkN 41 ⟨some 48, .binOp .neq 3 (.tmp 46) (.tmp 47) 3, 4, "ref.go:22", #[⟨39, .data⟩, ⟨40, .data⟩, ⟨36, .guard⟩], some (36, false)⟩ hHeld ?_
        try simp only [Act.put, List.setIfInBounds_toArray, List.set_cons_zero, List.set_cons_succ]
        refine tkY 42 ⟨some 49, .pick (.tmp 43) (.const (.bool true)) (.tmp 48), 4, "ref.go:22", #[⟨36, .data⟩, ⟨41, .data⟩], none⟩ ?v42z64 hHeld ?y42z64 ?r42z64
        case y42z64 => (intro w hSw; (try dsimp only at hSw); go_simp) <;> with_reducible rfl
        try simp only [Act.put, List.setIfInBounds_toArray, List.set_cons_zero, List.set_cons_succ]
        refine tkY 43 ⟨some 50, .move (.tmp 49), 4, "ref.go:22", #[⟨42, .data⟩, ⟨36, .chain⟩], none⟩ ?v43z65 hHeld ?y43z65 ?r43z65
        case y43z65 => (intro w hSw; (try dsimp only at hSw); go_simp) <;> with_reducible rfl
        try simp only [Act.put, List.setIfInBounds_toArray, List.set_cons_zero, List.set_cons_succ]
        refine tkN 44 ⟨some 51, .fieldAddr 25 (.tmp 3) 4, 0, "ref.go:22", #[⟨43, .guard⟩], some (43, false)⟩ hHeld ?_
        try simp only [Act.put, List.setIfInBounds_toArray, List.set_cons_zero, List.set_cons_succ]
        refine tkN 45 ⟨some 52, .load 22 (.tmp 51), 22, "ref.go:22", #[⟨44, .data⟩, ⟨43, .guard⟩], some (43, false)⟩ hHeld ?_
        try simp only [Act.put, List.setIfInBounds_toArray, List.set_cons_zero, List.set_cons_succ]
        refine tkN 46 ⟨some 53, .call { callee := .builtin .len, args := #[.tmp 52], argTypes := #[22] }, 3, "ref.go:22", #[⟨45, .data⟩, ⟨43, .guard⟩], some (43, false)⟩ hHeld ?_
        try simp only [Act.put, List.setIfInBounds_toArray, List.set_cons_zero, List.set_cons_succ]
        refine tkN 47 ⟨some 54, .move (.tmp 0), 3, "ref.go:22", #[⟨43, .guard⟩], some (43, false)⟩ hHeld ?_
        try simp only [Act.put, List.setIfInBounds_toArray, List.set_cons_zero, List.set_cons_succ]
        refine tkN 48 ⟨some 55, .binOp .neq 3 (.tmp 53) (.tmp 54) 3, 4, "ref.go:22", #[⟨46, .data⟩, ⟨47, .data⟩, ⟨43, .guard⟩], some (43, false)⟩ hHeld ?_
        try simp only [Act.put, List.setIfInBounds_toArray, List.set_cons_zero, List.set_cons_succ]
        refine tkY 49 ⟨some 56, .pick (.tmp 50) (.const (.bool true)) (.tmp 55), 4, "ref.go:22", #[⟨43, .data⟩, ⟨48, .data⟩], none⟩ ?v49z66 hHeld ?y49z66 ?r49z66
        case y49z66 => (intro w hSw; (try dsimp only at hSw); go_simp) <;> with_reducible rfl
        try simp only [Act.put, List.setIfInBounds_toArray, List.set_cons_zero, List.set_cons_succ]
        refine tkY 50 ⟨some 57, .move (.tmp 56), 4, "ref.go:22", #[⟨49, .data⟩, ⟨43, .chain⟩], none⟩ ?v50z67 hHeld ?y50z67 ?r50z67
        case y50z67 => (intro w hSw; (try dsimp only at hSw); go_simp) <;> with_reducible rfl
        try simp only [Act.put, List.setIfInBounds_toArray, List.set_cons_zero, List.set_cons_succ]
        refine tkN 51 ⟨some 58, .fieldAddr 25 (.tmp 3) 5, 0, "ref.go:22", #[⟨50, .guard⟩], some (50, false)⟩ hHeld ?_
        try simp only [Act.put, List.setIfInBounds_toArray, List.set_cons_zero, List.set_cons_succ]
        refine tkN 52 ⟨some 59, .load 23 (.tmp 58), 23, "ref.go:22", #[⟨51, .data⟩, ⟨50, .guard⟩], some (50, false)⟩ hHeld ?_
        try simp only [Act.put, List.setIfInBounds_toArray, List.set_cons_zero, List.set_cons_succ]
        refine tkN 53 ⟨some 60, .call { callee := .builtin .len, args := #[.tmp 59], argTypes := #[23] }, 3, "ref.go:22", #[⟨52, .data⟩, ⟨50, .guard⟩], some (50, false)⟩ hHeld ?_
        try simp only [Act.put, List.setIfInBounds_toArray, List.set_cons_zero, List.set_cons_succ]
        refine tkN 54 ⟨some 61, .fieldAddr 25 (.tmp 3) 0, 0, "ref.go:22", #[⟨50, .guard⟩], some (50, false)⟩ hHeld ?_
        try simp only [Act.put, List.setIfInBounds_toArray, List.set_cons_zero, List.set_cons_succ]
        refine tkN 55 ⟨some 62, .load 3 (.tmp 61), 3, "ref.go:22", #[⟨54, .data⟩, ⟨50, .guard⟩], some (50, false)⟩ hHeld ?_
        try simp only [Act.put, List.setIfInBounds_toArray, List.set_cons_zero, List.set_cons_succ]
        refine tkN 56 ⟨some 63, .call { callee := .value (.func 40), args := #[.tmp 62], argTypes := #[3] }, 3, "ref.go:22", #[⟨55, .data⟩, ⟨50, .chain⟩, ⟨50, .guard⟩], some (50, false)⟩ hHeld ?_
        try simp only [Act.put, List.setIfInBounds_toArray, List.set_cons_zero, List.set_cons_succ]
        refine tkN 57 ⟨some 64, .binOp .neq 3 (.tmp 60) (.tmp 63) 3, 4, "ref.go:22", #[⟨53, .data⟩, ⟨56, .data⟩, ⟨50, .guard⟩], some (50, false)⟩ hHeld ?_
        try simp only [Act.put, List.setIfInBounds_toArray, List.set_cons_zero, List.set_cons_succ]
        refine tkY 58 ⟨some 65, .pick (.tmp 57) (.const (.bool true)) (.tmp 64), 4, "ref.go:22", #[⟨50, .data⟩, ⟨57, .data⟩], none⟩ ?v58z68 hHeld ?y58z68 ?r58z68
        case y58z68 => (intro w hSw; (try dsimp only at hSw); go_simp) <;> with_reducible rfl
        try simp only [Act.put, List.setIfInBounds_toArray, List.set_cons_zero, List.set_cons_succ]
        refine wpAnyH_done (by kernel_rfl) ?_ _
        have HR : Hid (canB size ⟨e, t, c, tr, li, lk⟩ = false) := canB_no (by rintro ⟨q1, q2, q3, q4, q5, q6, q7, q8, q9, q10, q11, _⟩; dsimp only at q3 q4 q5 q6 q7 q8 q9 q10 q11; (try rw [HN.out] at q9); omega)
        have HW : Hid (Below w.heap.size w V.drew) := bA.trans (bD.mono bA.size)
        clear hHeld hcells bD bA k3 hLC
        go_wp2
        go_ret
        rw [HR.out]
        exact ⟨rfl, HW.out⟩
      · have d9 : decide (e < 0) = false := by simpa using hc9
        refine tkY 9 ⟨some 16, .binOp .lss 3 (.tmp 15) (.const (.int .i64 0)) 3, 4, "ref.go:22", #[⟨8, .data⟩, ⟨6, .guard⟩], some (6, false)⟩ ?v9z69 hHeld ?y9z69 ?r9z69
        case y9z69 => (intro w hSw; (try dsimp only at hSw); go_simp) <;> with_reducible rfl
        try simp only [Act.put, List.setIfInBounds_toArray, List.set_cons_zero, List.set_cons_succ]
        refine tkY 10 ⟨some 17, .pick (.tmp 13) (.const (.bool true)) (.tmp 16), 4, "ref.go:22", #[⟨6, .data⟩, ⟨9, .data⟩], none⟩ ?v10z70 hHeld ?y10z70 ?r10z70
        case y10z70 => (intro w hSw; (try dsimp only at hSw); go_simp) <;> with_reducible rfl
        try simp only [Act.put, List.setIfInBounds_toArray, List.set_cons_zero, List.set_cons_succ]
        refine tkY 11 ⟨some 18, .move (.tmp 17), 4, "ref.go:22", #[⟨10, .data⟩, ⟨6, .chain⟩], none⟩ ?v11z71 hHeld ?y11z71 ?r11z71
        case y11z71 => (intro w hSw; (try dsimp only at hSw); go_simp) <;> with_reducible rfl
        try simp only [Act.put, List.setIfInBounds_toArray, List.set_cons_zero, List.set_cons_succ]
        refine tkY 12 ⟨some 19, .fieldAddr 25 (.tmp 3) 0, 0, "ref.go:22", #[⟨11, .guard⟩], some (11, false)⟩ ?v12z72 hHeld ?y12z72 ?r12z72
        case y12z72 => (intro w hSw; (try dsimp only at hSw); go_simp) <;> with_reducible rfl
        try simp only [Act.put, List.setIfInBounds_toArray, List.set_cons_zero, List.set_cons_succ]
        refine tkY 13 ⟨some 20, .load 3 (.tmp 19), 3, "ref.go:22", #[⟨12, .data⟩, ⟨11, .guard⟩], some (11, false)⟩ ?v13z73 hHeld ?y13z73 ?r13z73
        case y13z73 => (intro w hSw; (try dsimp only at hSw); go_simp) <;> with_reducible rfl
        try simp only [Act.put, List.setIfInBounds_toArray, List.set_cons_zero, List.set_cons_succ]
        by_cases hc14 : (255 : Int) < e
        · refine tkY 14 ⟨some 21, .binOp .gtr 3 (.tmp 20) (.const (.int .i64 255)) 3, 4, "ref.go:22", #[⟨13, .data⟩, ⟨11, .guard⟩], some (11, false)⟩ ?v14z74 hHeld ?y14z74 ?r14z74
          case y14z74 => (intro w hSw; (try dsimp only at hSw); go_simp) <;> with_reducible rfl
          try simp only [Act.put, List.setIfInBounds_toArray, List.set_cons_zero, List.set_cons_succ]
          refine tkY 15 ⟨some 22, .pick (.tmp 18) (.const (.bool true)) (.tmp 21), 4, "ref.go:22", #[⟨11, .data⟩, ⟨14, .data⟩], none⟩ ?v15z75 hHeld ?y15z75 ?r15z75
          case y15z75 => (intro w hSw; (try dsimp only at hSw); go_simp) <;> with_reducible rfl
          try simp only [Act.put, List.setIfInBounds_toArray, List.set_cons_zero, List.set_cons_succ]
          refine tkY 16 ⟨some 23, .move (.tmp 22), 4, "ref.go:22", #[⟨15, .data⟩, ⟨11, .chain⟩], none⟩ ?v16z76 hHeld ?y16z76 ?r16z76
          case y16z76 => (intro w hSw; (try dsimp only at hSw); go_simp) <;> with_reducible rfl
          try simp only [Act.put, List.setIfInBounds_toArray, List.set_cons_zero, List.set_cons_succ]
          refine tkN 17 ⟨some 24, .fieldAddr 25 (.tmp 3) 1, 0, "ref.go:22", #[⟨16, .guard⟩], some (16, false)⟩ hHeld ?_
          try simp only [Act.put, List.setIfInBounds_toArray, List.set_cons_zero, List.set_cons_succ]
          refine tkN 18 ⟨some 25, .load 3 (.tmp 24), 3, "ref.go:22", #[⟨17, .data⟩, ⟨16, .guard⟩], some (16, false)⟩ hHeld ?_
          try simp only [Act.put, List.setIfInBounds_toArray, List.set_cons_zero, List.set_cons_succ]
          refine tkN 19 ⟨some 26, .binOp .lss 3 (.tmp 25) (.const (.int .i64 0)) 3, 4, "ref.go:22", #[⟨18, .data⟩, ⟨16, .guard⟩], some (16, false)⟩ hHeld ?_
          try simp only [Act.put, List.setIfInBounds_toArray, List.set_cons_zero, List.set_cons_succ]
          refine tkY 20 ⟨some 27, .pick (.tmp 23) (.const (.bool true)) (.tmp 26), 4, "ref.go:22", #[⟨16, .data⟩, ⟨19, .data⟩], none⟩ ?v20z77 hHeld ?y20z77 ?r20z77
          case y20z77 => (intro w hSw; (try dsimp only at hSw); go_simp) <;> with_reducible rfl
          try simp only [Act.put, List.setIfInBounds_toArray, List.set_cons_zero, List.set_cons_succ]
          refine tkY 21 ⟨some 28, .move (.tmp 27), 4, "ref.go:22", #[⟨20, .data⟩, ⟨16, .chain⟩], none⟩ ?v21z78 hHeld ?y21z78 ?r21z78
          case y21z78 => (intro w hSw; (try dsimp only at hSw); go_simp) <;> with_reducible rfl
          try simp only [Act.put, List.setIfInBounds_toArray, List.set_cons_zero, List.set_cons_succ]
          refine tkN 22 ⟨some 29, .fieldAddr 25 (.tmp 3) 1, 0, "ref.go:22", #[⟨21, .guard⟩], some (21, false)⟩ hHeld ?_
          try simp only [Act.put, List.setIfInBounds_toArray, List.set_cons_zero, List.set_cons_succ]
          refine tkN 23 ⟨some 30, .load 3 (.tmp 29), 3, "ref.go:22", #[⟨22, .data⟩, ⟨21, .guard⟩], some (21, false)⟩ hHeld ?_
          try simp only [Act.put, List.setIfInBounds_toArray, List.set_cons_zero, List.set_cons_succ]
          refine tkN 24 ⟨some 31, .binOp .gtr 3 (.tmp 30) (.const (.int .i64 1125899906842624)) 3, 4, "ref.go:22", #[⟨23, .data⟩, ⟨21, .guard⟩], some (21, false)⟩ hHeld ?_
          try simp only [Act.put, List.setIfInBounds_toArray, List.set_cons_zero, List.set_cons_succ]
          refine tkY 25 ⟨some 32, .pick (.tmp 28) (.const (.bool true)) (.tmp 31), 4, "ref.go:22", #[⟨21, .data⟩, ⟨24, .data⟩], none⟩ ?v25z79 hHeld ?y25z79 ?r25z79
          case y25z79 => (intro w hSw; (try dsimp only at hSw); go_simp) <;> with_reducible rfl
          try simp only [Act.put, List.setIfInBounds_toArray, List.set_cons_zero, List.set_cons_succ]
          refine tkY 26 ⟨some 33, .move (.tmp 32), 4, "ref.go:22", #[⟨25, .data⟩, ⟨21, .chain⟩], none⟩ ?v26z80 hHeld ?y26z80 ?r26z80
          case y26z80 => (intro w hSw; (try dsimp only at hSw); go_simp) <;> with_reducible rfl
          try simp only [Act.put, List.setIfInBounds_toArray, List.set_cons_zero, List.set_cons_succ]
          refine tkN 27 ⟨some 34, .fieldAddr 25 (.tmp 3) 3, 0, "ref.go:22", #[⟨26, .guard⟩], some (26, false)⟩ hHeld ?_
          try simp only [Act.put, List.setIfInBounds_toArray, List.set_cons_zero, List.set_cons_succ]
          refine tkN 28 ⟨some 35, .load 3 (.tmp 34), 3, "ref.go:22", #[⟨27, .data⟩, ⟨26, .guard⟩], some (26, false)⟩ hHeld ?_
          try simp only [Act.put, List.setIfInBounds_toArray, List.set_cons_zero, List.set_cons_succ]
          refine tkN 29 ⟨some 36, .binOp .lss 3 (.tmp 35) (.const (.int .i64 0)) 3, 4, "ref.go:22", #[⟨28, .data⟩, ⟨26, .guard⟩], some (26, false)⟩ hHeld ?_
          try simp only [Act.put, List.setIfInBounds_toArray, List.set_cons_zero, List.set_cons_succ]
          refine tkY 30 ⟨some 37, .pick (.tmp 33) (.const (.bool true)) (.tmp 36), 4, "ref.go:22", #[⟨26, .data⟩, ⟨29, .data⟩], none⟩ ?v30z81 hHeld ?y30z81 ?r30z81
          case y30z81 => (intro w hSw; (try dsimp only at hSw); go_simp) <;> with_reducible rfl
          try simp only [Act.put, List.setIfInBounds_toArray, List.set_cons_zero, List.set_cons_succ]
          refine tkY 31 ⟨some 38, .move (.tmp 37), 4, "ref.go:22", #[⟨30, .data⟩, ⟨26, .chain⟩], none⟩ ?v31z82 hHeld ?y31z82 ?r31z82
          case y31z82 => (intro w hSw; (try dsimp only at hSw); go_simp) <;> with_reducible rfl
          try simp only [Act.put, List.setIfInBounds_toArray, List.set_cons_zero, List.set_cons_succ]
          refine tkN 32 ⟨some 39, .fieldAddr 25 (.tmp 3) 3, 0, "ref.go:22", #[⟨31, .guard⟩], some (31, false)⟩ hHeld ?_
          try simp only [Act.put, List.setIfInBounds_toArray, List.set_cons_zero, List.set_cons_succ]
          refine tkN 33 ⟨some 40, .load 3 (.tmp 39), 3, "ref.go:22", #[⟨32, .data⟩, ⟨31, .guard⟩], some (31, false)⟩ hHeld ?_
          try simp only [Act.put, List.setIfInBounds_toArray, List.set_cons_zero, List.set_cons_succ]
          refine tkN 34 ⟨some 41, .binOp .gtr 3 (.tmp 40) (.const (.int .i64 32)) 3, 4, "ref.go:22", #[⟨33, .data⟩, ⟨31, .guard⟩], some (31, false)⟩ hHeld ?_
          try simp only [Act.put, List.setIfInBounds_toArray, List.set_cons_zero, List.set_cons_succ]
          refine tkY 35 ⟨some 42, .pick (.tmp 38) (.const (.bool true)) (.tmp 41), 4, "ref.go:22", #[⟨31, .data⟩, ⟨34, .data⟩], none⟩ ?v35z83 hHeld ?y35z83 ?r35z83
          case y35z83 => (intro w hSw; (try dsimp only at hSw); go_simp) <;> with_reducible rfl
          try simp only [Act.put, List.setIfInBounds_toArray, List.set_cons_zero, List.set_cons_succ]
          refine tkY 36 ⟨some 43, .move (.tmp 42), 4, "ref.go:22", #[⟨35, .data⟩, ⟨31, .chain⟩], none⟩ ?v36z84 hHeld ?y36z84 ?r36z84
          case y36z84 => (intro w hSw; (try dsimp only at hSw); go_simp) <;> with_reducible rfl
          try simp only [Act.put, List.setIfInBounds_toArray, List.set_cons_zero, List.set_cons_succ]
          refine tkN 37 ⟨some 44, .fieldAddr 25 (.tmp 3) 2, 0, "ref.go:22", #[⟨36, .guard⟩], some (36, false)⟩ hHeld ?_
          try simp only [Act.put, List.setIfInBounds_toArray, List.set_cons_zero, List.set_cons_succ]
          refine tkN 38 ⟨some 45, .load 22 (.tmp 44), 22, "ref.go:22", #[⟨37, .data⟩, ⟨36, .guard⟩], some (36, false)⟩ hHeld ?_
          try simp only [Act.put, List.setIfInBounds_toArray, List.set_cons_zero, List.set_cons_succ]
          refine tkN 39 ⟨some 46, .call { callee := .builtin .len, args := #[.tmp 45], argTypes := #[22] }, 3, "ref.go:22", #[⟨38, .data⟩, ⟨36, .guard⟩], some (36, false)⟩ hHeld ?_
          try simp only [Act.put, List.setIfInBounds_toArray, List.set_cons_zero, List.set_cons_succ]
          refine tkN 40 ⟨some 47, .move (.tmp 0), 3, "ref.go:22", #[⟨36, .guard⟩], some (36, false)⟩ hHeld ?_
          try simp only [Act.put, List.setIfInBounds_toArray, List.set_cons_zero, List.set_cons_succ]
          refine tkN 41 ⟨some 48, .binOp .neq 3 (.tmp 46) (.tmp 47) 3, 4, "ref.go:22", #[⟨39, .data⟩, ⟨40, .data⟩, ⟨36, .guard⟩], some (36, false)⟩ hHeld ?_
          try simp only [Act.put, List.setIfInBounds_toArray, List.set_cons_zero, List.set_cons_succ]
          refine tkY 42 ⟨some 49, .pick (.tmp 43) (.const (.bool true)) (.tmp 48), 4, "ref.go:22", #[⟨36, .data⟩, ⟨41, .data⟩], none⟩ ?v42z85 hHeld ?y42z85 ?r42z85
          case y42z85 => (intro w hSw; (try dsimp only at hSw); go_simp) <;> with_reducible rfl
          try simp only [Act.put, List.setIfInBounds_toArray, List.set_cons_zero, List.set_cons_succ]
          refine tkY 43 ⟨some 50, .move (.tmp 49), 4, "ref.go:22", #[⟨42, .data⟩, ⟨36, .chain⟩], none⟩ ?v43z86 hHeld ?y43z86 ?r43z86
          case y43z86 => (intro w hSw; (try dsimp only at hSw); go_simp) <;> with_reducible rfl
          try simp only [Act.put, List.setIfInBounds_toArray, List.set_cons_zero, List.set_cons_succ]
          refine tkN 44 ⟨some 51, .fieldAddr 25 (.tmp 3) 4, 0, "ref.go:22", #[⟨43, .guard⟩], some (43, false)⟩ hHeld ?_
          try simp only [Act.put, List.setIfInBounds_toArray, List.set_cons_zero, List.set_cons_succ]
          refine tkN 45 ⟨some 52, .load 22 (.tmp 51), 22, "ref.go:22", #[⟨44, .data⟩, ⟨43, .guard⟩], some (43, false)⟩ hHeld ?_
          try simp only [Act.put, List.setIfInBounds_toArray, List.set_cons_zero, List.set_cons_succ]
          refine tkN 46 ⟨some 53, .call { callee := .builtin .len, args := #[.tmp 52], argTypes := #[22] }, 3, "ref.go:22", #[⟨45, .data⟩, ⟨43, .guard⟩], some (43, false)⟩ hHeld ?_
          try simp only [Act.put, List.setIfInBounds_toArray, List.set_cons_zero, List.set_cons_succ]
          refine tkN 47 ⟨some 54, .move (.tmp 0), 3, "ref.go:22", #[⟨43, .guard⟩], some (43, false)⟩ hHeld ?_
          try simp only [Act.put, List.setIfInBounds_toArray, List.set_cons_zero, List.set_cons_succ]
          refine tkN 48 ⟨some 55, .binOp .neq 3 (.tmp 53) (.tmp 54) 3, 4, "ref.go:22", #[⟨46, .data⟩, ⟨47, .data⟩, ⟨43, .guard⟩], some (43, false)⟩ hHeld ?_
          try simp only [Act.put, List.setIfInBounds_toArray, List.set_cons_zero, List.set_cons_succ]
          refine tkY 49 ⟨some 56, .pick (.tmp 50) (.const (.bool true)) (.tmp 55), 4, "ref.go:22", #[⟨43, .data⟩, ⟨48, .data⟩], none⟩ ?v49z87 hHeld ?y49z87 ?r49z87
          case y49z87 => (intro w hSw; (try dsimp only at hSw); go_simp) <;> with_reducible rfl
          try simp only [Act.put, List.setIfInBounds_toArray, List.set_cons_zero, List.set_cons_succ]
          refine tkY 50 ⟨some 57, .move (.tmp 56), 4, "ref.go:22", #[⟨49, .data⟩, ⟨43, .chain⟩], none⟩ ?v50z88 hHeld ?y50z88 ?r50z88
          case y50z88 => (intro w hSw; (try dsimp only at hSw); go_simp) <;> with_reducible rfl
          try simp only [Act.put, List.setIfInBounds_toArray, List.set_cons_zero, List.set_cons_succ]
          refine tkN 51 ⟨some 58, .fieldAddr 25 (.tmp 3) 5, 0, "ref.go:22", #[⟨50, .guard⟩], some (50, false)⟩ hHeld ?_
          try simp only [Act.put, List.setIfInBounds_toArray, List.set_cons_zero, List.set_cons_succ]
          refine tkN 52 ⟨some 59, .load 23 (.tmp 58), 23, "ref.go:22", #[⟨51, .data⟩, ⟨50, .guard⟩], some (50, false)⟩ hHeld ?_
          try simp only [Act.put, List.setIfInBounds_toArray, List.set_cons_zero, List.set_cons_succ]
          refine tkN 53 ⟨some 60, .call { callee := .builtin .len, args := #[.tmp 59], argTypes := #[23] }, 3, "ref.go:22", #[⟨52, .data⟩, ⟨50, .guard⟩], some (50, false)⟩ hHeld ?_
          try simp only [Act.put, List.setIfInBounds_toArray, List.set_cons_zero, List.set_cons_succ]
          refine tkN 54 ⟨some 61, .fieldAddr 25 (.tmp 3) 0, 0, "ref.go:22", #[⟨50, .guard⟩], some (50, false)⟩ hHeld ?_
          try simp only [Act.put, List.setIfInBounds_toArray, List.set_cons_zero, List.set_cons_succ]
          refine tkN 55 ⟨some 62, .load 3 (.tmp 61), 3, "ref.go:22", #[⟨54, .data⟩, ⟨50, .guard⟩], some (50, false)⟩ hHeld ?_
          try simp only [Act.put, List.setIfInBounds_toArray, List.set_cons_zero, List.set_cons_succ]
          refine tkN 56 ⟨some 63, .call { callee := .value (.func 40), args := #[.tmp 62], argTypes := #[3] }, 3, "ref.go:22", #[⟨55, .data⟩, ⟨50, .chain⟩, ⟨50, .guard⟩], some (50, false)⟩ hHeld ?_
          try simp only [Act.put, List.setIfInBounds_toArray, List.set_cons_zero, List.set_cons_succ]
          refine tkN 57 ⟨some 64, .binOp .neq 3 (.tmp 60) (.tmp 63) 3, 4, "ref.go:22", #[⟨53, .data⟩, ⟨56, .data⟩, ⟨50, .guard⟩], some (50, false)⟩ hHeld ?_
          try simp only [Act.put, List.setIfInBounds_toArray, List.set_cons_zero, List.set_cons_succ]
          refine tkY 58 ⟨some 65, .pick (.tmp 57) (.const (.bool true)) (.tmp 64), 4, "ref.go:22", #[⟨50, .data⟩, ⟨57, .data⟩], none⟩ ?v58z89 hHeld ?y58z89 ?r58z89
          case y58z89 => (intro w hSw; (try dsimp only at hSw); go_simp) <;> with_reducible rfl
          try simp only [Act.put, List.setIfInBounds_toArray, List.set_cons_zero, List.set_cons_succ]
          refine wpAnyH_done (by kernel_rfl) ?_ _
          have HR : Hid (canB size ⟨e, t, c, tr, li, lk⟩ = false) := canB_no (by rintro ⟨q1, q2, q3, q4, q5, q6, q7, q8, q9, q10, q11, _⟩; dsimp only at q3 q4 q5 q6 q7 q8 q9 q10 q11; (try rw [HN.out] at q9); omega)
          have HW : Hid (Below w.heap.size w V.drew) := bA.trans (bD.mono bA.size)
          clear hHeld hcells bD bA k3 hLC
          go_wp2
          go_ret
          rw [HR.out]
          exact ⟨rfl, HW.out⟩
        · have d14 : decide ((255 : Int) < e) = false := by simpa using hc14
          refine tkY 14 ⟨some 21, .binOp .gtr 3 (.tmp 20) (.const (.int .i64 255)) 3, 4, "ref.go:22", #[⟨13, .data⟩, ⟨11, .guard⟩], some (11, false)⟩ ?v14z90 hHeld ?y14z90 ?r14z90
          case y14z90 => (intro w hSw; (try dsimp only at hSw); go_simp) <;> with_reducible rfl
          try simp only [Act.put, List.setIfInBounds_toArray, List.set_cons_zero, List.set_cons_succ]
          refine tkY 15 ⟨some 22, .pick (.tmp 18) (.const (.bool true)) (.tmp 21), 4, "ref.go:22", #[⟨11, .data⟩, ⟨14, .data⟩], none⟩ ?v15z91 hHeld ?y15z91 ?r15z91
          case y15z91 => (intro w hSw; (try dsimp only at hSw); go_simp) <;> with_reducible rfl
          try simp only [Act.put, List.setIfInBounds_toArray, List.set_cons_zero, List.set_cons_succ]
          refine tkY 16 ⟨some 23, .move (.tmp 22), 4, "ref.go:22", #[⟨15, .data⟩, ⟨11, .chain⟩], none⟩ ?v16z92 hHeld ?y16z92 ?r16z92
          case y16z92 => (intro w hSw; (try dsimp only at hSw); go_simp) <;> with_reducible rfl
          try simp only [Act.put, List.setIfInBounds_toArray, List.set_cons_zero, List.set_cons_succ]
          refine tkY 17 ⟨some 24, .fieldAddr 25 (.tmp 3) 1, 0, "ref.go:22", #[⟨16, .guard⟩], some (16, false)⟩ ?v17z93 hHeld ?y17z93 ?r17z93
          case y17z93 => (intro w hSw; (try dsimp only at hSw); go_simp) <;> with_reducible rfl
          try simp only [Act.put, List.setIfInBounds_toArray, List.set_cons_zero, List.set_cons_succ]
          refine tkY 18 ⟨some 25, .load 3 (.tmp 24), 3, "ref.go:22", #[⟨17, .data⟩, ⟨16, .guard⟩], some (16, false)⟩ ?v18z94 hHeld ?y18z94 ?r18z94
          case y18z94 => (intro w hSw; (try dsimp only at hSw); go_simp) <;> with_reducible rfl
          try simp only [Act.put, List.setIfInBounds_toArray, List.set_cons_zero, List.set_cons_succ]
          by_cases hc19 : t < 0
          · refine tkY 19 ⟨some 26, .binOp .lss 3 (.tmp 25) (.const (.int .i64 0)) 3, 4, "ref.go:22", #[⟨18, .data⟩, ⟨16, .guard⟩], some (16, false)⟩ ?v19z95 hHeld ?y19z95 ?r19z95
            case y19z95 => (intro w hSw; (try dsimp only at hSw); go_simp) <;> with_reducible rfl
            try simp only [Act.put, List.setIfInBounds_toArray, List.set_cons_zero, List.set_cons_succ]
            refine tkY 20 ⟨some 27, .pick (.tmp 23) (.const (.bool true)) (.tmp 26), 4, "ref.go:22", #[⟨16, .data⟩, ⟨19, .data⟩], none⟩ ?v20z96 hHeld ?y20z96 ?r20z96
            case y20z96 => (intro w hSw; (try dsimp only at hSw); go_simp) <;> with_reducible rfl
            try simp only [Act.put, List.setIfInBounds_toArray, List.set_cons_zero, List.set_cons_succ]
            refine tkY 21 ⟨some 28, .move (.tmp 27), 4, "ref.go:22", #[⟨20, .data⟩, ⟨16, .chain⟩], none⟩ ?v21z97 hHeld ?y21z97 ?r21z97
            case y21z97 => (intro w hSw; (try dsimp only at hSw); go_simp) <;> with_reducible rfl
            try simp only [Act.put, List.setIfInBounds_toArray, List.set_cons_zero, List.set_cons_succ]
            refine tkN 22 ⟨some 29, .fieldAddr 25 (.tmp 3) 1, 0, "ref.go:22", #[⟨21, .guard⟩], some (21, false)⟩ hHeld ?_
            try simp only [Act.put, List.setIfInBounds_toArray, List.set_cons_zero, List.set_cons_succ]
            refine tkN 23 ⟨some 30, .load 3 (.tmp 29), 3, "ref.go:22", #[⟨22, .data⟩, ⟨21, .guard⟩], some (21, false)⟩ hHeld ?_
            try simp only [Act.put, List.setIfInBounds_toArray, List.set_cons_zero, List.set_cons_succ]
            refine tkN 24 ⟨some 31, .binOp .gtr 3 (.tmp 30) (.const (.int .i64 1125899906842624)) 3, 4, "ref.go:22", #[⟨23, .data⟩, ⟨21, .guard⟩], some (21, false)⟩ hHeld ?_
            try simp only [Act.put, List.setIfInBounds_toArray, List.set_cons_zero, List.set_cons_succ]
            refine tkY 25 ⟨some 32, .pick (.tmp 28) (.const (.bool true)) (.tmp 31), 4, "ref.go:22", #[⟨21, .data⟩, ⟨24, .data⟩], none⟩ ?v25z98 hHeld ?y25z98 ?r25z98
            case y25z98 => (intro w hSw; (try dsimp only at hSw); go_simp) <;> with_reducible rfl
            try simp only [Act.put, List.setIfInBounds_toArray, List.set_cons_zero, List.set_cons_succ]
            refine tkY 26 ⟨some 33, .move (.tmp 32), 4, "ref.go:22", #[⟨25, .data⟩, ⟨21, .chain⟩], none⟩ ?v26z99 hHeld ?y26z99 ?r26z99
            case y26z99 => (intro w hSw; (try dsimp only at hSw); go_simp) <;> with_reducible rfl
            try simp only [Act.put, List.setIfInBounds_toArray, List.set_cons_zero, List.set_cons_succ]
            refine tkN 27 ⟨some 34, .fieldAddr 25 (.tmp 3) 3, 0, "ref.go:22", #[⟨26, .guard⟩], some (26, false)⟩ hHeld ?_
            try simp only [Act.put, List.setIfInBounds_toArray, List.set_cons_zero, List.set_cons_succ]
            refine tkN 28 ⟨some 35, .load 3 (.tmp 34), 3, "ref.go:22", #[⟨27, .data⟩, ⟨26, .guard⟩], some (26, false)⟩ hHeld ?_
            try simp only [Act.put, List.setIfInBounds_toArray, List.set_cons_zero, List.set_cons_succ]
            refine tkN 29 ⟨some 36, .binOp .lss 3 (.tmp 35) (.const (.int .i64 0)) 3, 4, "ref.go:22", #[⟨28, .data⟩, ⟨26, .guard⟩], some (26, false)⟩ hHeld ?_
            try simp only [Act.put, List.setIfInBounds_toArray, List.set_cons_zero, List.set_cons_succ]
            refine tkY 30 ⟨some 37, .pick (.tmp 33) (.const (.bool true)) (.tmp 36), 4, "ref.go:22", #[⟨26, .data⟩, ⟨29, .data⟩], none⟩ ?v30z100 hHeld ?y30z100 ?r30z100
            case y30z100 => (intro w hSw; (try dsimp only at hSw); go_simp) <;> with_reducible rfl
            try simp only [Act.put, List.setIfInBounds_toArray, List.set_cons_zero, List.set_cons_succ]
            refine tkY 31 ⟨some 38, .move (.tmp 37), 4, "ref.go:22", #[⟨30, .data⟩, ⟨26, .chain⟩], none⟩ ?v31z101 hHeld ?y31z101 ?r31z101
            case y31z101 => (intro w hSw; (try dsimp only at hSw); go_simp) <;> with_reducible rfl
            try simp only [Act.put, List.setIfInBounds_toArray, List.set_cons_zero, List.set_cons_succ]
            refine tkN 32 ⟨some 39, .fieldAddr 25 (.tmp 3) 3, 0, "ref.go:22", #[⟨31, .guard⟩], some (31, false)⟩ hHeld ?_
            try simp only [Act.put, List.setIfInBounds_toArray, List.set_cons_zero, List.set_cons_succ]
            refine tkN 33 ⟨some 40, .load 3 (.tmp 39), 3, "ref.go:22", #[⟨32, .data⟩, ⟨31, .guard⟩], some (31, false)⟩ hHeld ?_
            try simp only [Act.put, List.setIfInBounds_toArray, List.set_cons_zero, List.set_cons_succ]
            refine tkN 34 ⟨some 41, .binOp .gtr 3 (.tmp 40) (.const (.int .i64 32)) 3, 4, "ref.go:22", #[⟨33, .data⟩, ⟨31, .guard⟩], some (31, false)⟩ hHeld ?_
            try simp only [Act.put, List.setIfInBounds_toArray, List.set_cons_zero, List.set_cons_succ]
            refine tkY 35 ⟨some 42, .pick (.tmp 38) (.const (.bool true)) (.tmp 41), 4, "ref.go:22", #[⟨31, .data⟩, ⟨34, .data⟩], none⟩ ?v35z102 hHeld ?y35z102 ?r35z102
            case y35z102 => (intro w hSw; (try dsimp only at hSw); go_simp) <;> with_reducible rfl
            try simp only [Act.put, List.setIfInBounds_toArray, List.set_cons_zero, List.set_cons_succ]
            refine tkY 36 ⟨some 43, .move (.tmp 42), 4, "ref.go:22", #[⟨35, .data⟩, ⟨31, .chain⟩], none⟩ ?v36z103 hHeld ?y36z103 ?r36z103
            case y36z103 => (intro w hSw; (try dsimp only at hSw); go_simp) <;> with_reducible rfl
            try simp only [Act.put, List.setIfInBounds_toArray, List.set_cons_zero, List.set_cons_succ]
            refine tkN 37 ⟨some 44, .fieldAddr 25 (.tmp 3) 2, 0, "ref.go:22", #[⟨36, .guard⟩], some (36, false)⟩ hHeld ?_
            try simp only [Act.put, List.setIfInBounds_toArray, List.set_cons_zero, List.set_cons_succ]
            refine tkN 38 ⟨some 45, .load 22 (.tmp 44), 22, "ref.go:22", #[⟨37, .data⟩, ⟨36, .guard⟩], some (36, false)⟩ hHeld ?_
            try simp only [Act.put, List.setIfInBounds_toArray, List.set_cons_zero, List.set_cons_succ]
            refine tkN 39 ⟨some 46, .call { callee := .builtin .len, args := #[.tmp 45], argTypes := #[22] }, 3, "ref.go:22", #[⟨38, .data⟩, ⟨36, .guard⟩], some (36, false)⟩ hHeld ?_
            try simp only [Act.put, List.setIfInBounds_toArray, List.set_cons_zero, List.set_cons_succ]
            refine tkN 40 ⟨some 47, .move (.tmp 0), 3, "ref.go:22", #[⟨36, .guard⟩], some (36, false)⟩ hHeld ?_
            try simp only [Act.put, List.setIfInBounds_toArray, List.set_cons_zero, List.set_cons_succ]
            refine tkN 41 ⟨some 48, .binOp .neq 3 (.tmp 46) (.tmp 47) 3, 4, "ref.go:22", #[⟨39, .data⟩, ⟨40, .data⟩, ⟨36, .guard⟩], some (36, false)⟩ hHeld ?_
            try simp only [Act.put, List.setIfInBounds_toArray, List.set_cons_zero, List.set_cons_succ]
            refine tkY 42 ⟨some 49, .pick (.tmp 43) (.const (.bool true)) (.tmp 48), 4, "ref.go:22", #[⟨36, .data⟩, ⟨41, .data⟩], none⟩ ?v42z104 hHeld ?y42z104 ?r42z104
            case y42z104 => (intro w hSw; (try dsimp only at hSw); go_simp) <;> with_reducible rfl
            try simp only [Act.put, List.setIfInBounds_toArray, List.set_cons_zero, List.set_cons_succ]
            refine tkY 43 ⟨some 50, .move (.tmp 49), 4, "ref.go:22", #[⟨42, .data⟩, ⟨36, .chain⟩], none⟩ ?v43z105 hHeld ?y43z105 ?r43z105
            case y43z105 => (intro w hSw; (try dsimp only at hSw); go_simp) <;> with_reducible rfl
            try simp only [Act.put, List.setIfInBounds_toArray, List.set_cons_zero, List.set_cons_succ]
            refine tkN 44 ⟨some 51, .fieldAddr 25 (.tmp 3) 4, 0, "ref.go:22", #[⟨43, .guard⟩], some (43, false)⟩ hHeld ?_
            try simp only [Act.put, List.setIfInBounds_toArray, List.set_cons_zero, List.set_cons_succ]
            refine tkN 45 ⟨some 52, .load 22 (.tmp 51), 22, "ref.go:22", #[⟨44, .data⟩, ⟨43, .guard⟩], some (43, false)⟩ hHeld ?_
            try simp only [Act.put, List.setIfInBounds_toArray, List.set_cons_zero, List.set_cons_succ]
            refine tkN 46 ⟨some 53, .call { callee := .builtin .len, args := #[.tmp 52], argTypes := #[22] }, 3, "ref.go:22", #[⟨45, .data⟩, ⟨43, .guard⟩], some (43, false)⟩ hHeld ?_
            try simp only [Act.put, List.setIfInBounds_toArray, List.set_cons_zero, List.set_cons_succ]
            refine tkN 47 ⟨some 54, .move (.tmp 0), 3, "ref.go:22", #[⟨43, .guard⟩], some (43, false)⟩ hHeld ?_
            try simp only [Act.put, List.setIfInBounds_toArray, List.set_cons_zero, List.set_cons_succ]
            refine tkN 48 ⟨some 55, .binOp .neq 3 (.tmp 53) (.tmp 54) 3, 4, "ref.go:22", #[⟨46, .data⟩, ⟨47, .data⟩, ⟨43, .guard⟩], some (43, false)⟩ hHeld ?_
            try simp only [Act.put, List.setIfInBounds_toArray, List.set_cons_zero, List.set_cons_succ]
            refine tkY 49 ⟨some 56, .pick (.tmp 50) (.const (.bool true)) (.tmp 55), 4, "ref.go:22", #[⟨43, .data⟩, ⟨48, .data⟩], none⟩ ?v49z106 hHeld ?y49z106 ?r49z106
            case y49z106 => (intro w hSw; (try dsimp only at hSw); go_simp) <;> with_reducible rfl
            try simp only [Act.put, List.setIfInBounds_toArray, List.set_cons_zero, List.set_cons_succ]
            refine tkY 50 ⟨some 57, .move (.tmp 56), 4, "ref.go:22", #[⟨49, .data⟩, ⟨43, .chain⟩], none⟩ ?v50z107 hHeld ?y50z107 ?r50z107
            case y50z107 => (intro w hSw; (try dsimp only at hSw); go_simp) <;> with_reducible rfl
            try simp only [Act.put, List.setIfInBounds_toArray, List.set_cons_zero, List.set_cons_succ]
            refine tkN 51 ⟨some 58, .fieldAddr 25 (.tmp 3) 5, 0, "ref.go:22", #[⟨50, .guard⟩], some (50, false)⟩ hHeld ?_
            try simp only [Act.put, List.setIfInBounds_toArray, List.set_cons_zero, List.set_cons_succ]
            refine tkN 52 ⟨some 59, .load 23 (.tmp 58), 23, "ref.go:22", #[⟨51, .data⟩, ⟨50, .guard⟩], some (50, false)⟩ hHeld ?_
            try simp only [Act.put, List.setIfInBounds_toArray, List.set_cons_zero, List.set_cons_succ]
            refine tkN 53 ⟨some 60, .call { callee := .builtin .len, args := #[.tmp 59], argTypes := #[23] }, 3, "ref.go:22", #[⟨52, .data⟩, ⟨50, .guard⟩], some (50, false)⟩ hHeld ?_
            try simp only [Act.put, List.setIfInBounds_toArray, List.set_cons_zero, List.set_cons_succ]
            refine tkN 54 ⟨some 61, .fieldAddr 25 (.tmp 3) 0, 0, "ref.go:22", #[⟨50, .guard⟩], some (50, false)⟩ hHeld ?_
            try simp only [Act.put, List.setIfInBounds_toArray, List.set_cons_zero, List.set_cons_succ]
            refine tkN 55 ⟨some 62, .load 3 (.tmp 61), 3, "ref.go:22", #[⟨54, .data⟩, ⟨50, .guard⟩], some (50, false)⟩ hHeld ?_
            try simp only [Act.put, List.setIfInBounds_toArray, List.set_cons_zero, List.set_cons_succ]
            refine tkN 56 ⟨some 63, .call { callee := .value (.func 40), args := #[.tmp 62], argTypes := #[3] }, 3, "ref.go:22", #[⟨55, .data⟩, ⟨50, .chain⟩, ⟨50, .guard⟩], some (50, false)⟩ hHeld ?_
            try simp only [Act.put, List.setIfInBounds_toArray, List.set_cons_zero, List.set_cons_succ]
            refine tkN 57 ⟨some 64, .binOp .neq 3 (.tmp 60) (.tmp 63) 3, 4, "ref.go:22", #[⟨53, .data⟩, ⟨56, .data⟩, ⟨50, .guard⟩], some (50, false)⟩ hHeld ?_
            try simp only [Act.put, List.setIfInBounds_toArray, List.set_cons_zero, List.set_cons_succ]
            refine tkY 58 ⟨some 65, .pick (.tmp 57) (.const (.bool true)) (.tmp 64), 4, "ref.go:22", #[⟨50, .data⟩, ⟨57, .data⟩], none⟩ ?v58z108 hHeld ?y58z108 ?r58z108
            case y58z108 => (intro w hSw; (try dsimp only at hSw); go_simp) <;> with_reducible rfl
            try simp only [Act.put, List.setIfInBounds_toArray, List.set_cons_zero, List.set_cons_succ]
            refine wpAnyH_done (by kernel_rfl) ?_ _
            have HR : Hid (canB size ⟨e, t, c, tr, li, lk⟩ = false) := canB_no (by rintro ⟨q1, q2, q3, q4, q5, q6, q7, q8, q9, q10, q11, _⟩; dsimp only at q3 q4 q5 q6 q7 q8 q9 q10 q11; (try rw [HN.out] at q9); omega)
            have HW : Hid (Below w.heap.size w V.drew) := bA.trans (bD.mono bA.size)
            clear hHeld hcells bD bA k3 hLC
            go_wp2
            go_ret
            rw [HR.out]
            exact ⟨rfl, HW.out⟩
          · have d19 : decide (t < 0) = false := by simpa using hc19
            refine tkY 19 ⟨some 26, .binOp .lss 3 (.tmp 25) (.const (.int .i64 0)) 3, 4, "ref.go:22", #[⟨18, .data⟩, ⟨16, .guard⟩], some (16, false)⟩ ?v19z109 hHeld ?y19z109 ?r19z109
            case y19z109 => (intro w hSw; (try dsimp only at hSw); go_simp) <;> with_reducible rfl
            try simp only [Act.put, List.setIfInBounds_toArray, List.set_cons_zero, List.set_cons_succ]
            refine tkY 20 ⟨some 27, .pick (.tmp 23) (.const (.bool true)) (.tmp 26), 4, "ref.go:22", #[⟨16, .data⟩, ⟨19, .data⟩], none⟩ ?v20z110 hHeld ?y20z110 ?r20z110
            case y20z110 => (intro w hSw; (try dsimp only at hSw); go_simp) <;> with_reducible rfl
            try simp only [Act.put, List.setIfInBounds_toArray, List.set_cons_zero, List.set_cons_succ]
            refine tkY 21 ⟨some 28, .move (.tmp 27), 4, "ref.go:22", #[⟨20, .data⟩, ⟨16, .chain⟩], none⟩ ?v21z111 hHeld ?y21z111 ?r21z111
            case y21z111 => (intro w hSw; (try dsimp only at hSw); go_simp) <;> with_reducible rfl
            try simp only [Act.put, List.setIfInBounds_toArray, List.set_cons_zero, List.set_cons_succ]
            refine tkY 22 ⟨some 29, .fieldAddr 25 (.tmp 3) 1, 0, "ref.go:22", #[⟨21, .guard⟩], some (21, false)⟩ ?v22z112 hHeld ?y22z112 ?r22z112
            case y22z112 => (intro w hSw; (try dsimp only at hSw); go_simp) <;> with_reducible rfl
            try simp only [Act.put, List.setIfInBounds_toArray, List.set_cons_zero, List.set_cons_succ]
            refine tkY 23 ⟨some 30, .load 3 (.tmp 29), 3, "ref.go:22", #[⟨22, .data⟩, ⟨21, .guard⟩], some (21, false)⟩ ?v23z113 hHeld ?y23z113 ?r23z113
            case y23z113 => (intro w hSw; (try dsimp only at hSw); go_simp) <;> with_reducible rfl
            try simp only [Act.put, List.setIfInBounds_toArray, List.set_cons_zero, List.set_cons_succ]
            by_cases hc24 : (1125899906842624 : Int) < t
            · refine tkY 24 ⟨some 31, .binOp .gtr 3 (.tmp 30) (.const (.int .i64 1125899906842624)) 3, 4, "ref.go:22", #[⟨23, .data⟩, ⟨21, .guard⟩], some (21, false)⟩ ?v24z114 hHeld ?y24z114 ?r24z114
              case y24z114 => (intro w hSw; (try dsimp only at hSw); go_simp) <;> with_reducible rfl
              try simp only [Act.put, List.setIfInBounds_toArray, List.set_cons_zero, List.set_cons_succ]
              refine tkY 25 ⟨some 32, .pick (.tmp 28) (.const (.bool true)) (.tmp 31), 4, "ref.go:22", #[⟨21, .data⟩, ⟨24, .data⟩], none⟩ ?v25z115 hHeld ?y25z115 ?r25z115
              case y25z115 => (intro w hSw; (try dsimp only at hSw); go_simp) <;> with_reducible rfl
              try simp only [Act.put, List.setIfInBounds_toArray, List.set_cons_zero, List.set_cons_succ]
              refine tkY 26 ⟨some 33, .move (.tmp 32), 4, "ref.go:22", #[⟨25, .data⟩, ⟨21, .chain⟩], none⟩ ?v26z116 hHeld ?y26z116 ?r26z116
              case y26z116 => (intro w hSw; (try dsimp only at hSw); go_simp) <;> with_reducible rfl
              try simp only [Act.put, List.setIfInBounds_toArray, List.set_cons_zero, List.set_cons_succ]
              refine tkN 27 ⟨some 34, .fieldAddr 25 (.tmp 3) 3, 0, "ref.go:22", #[⟨26, .guard⟩], some (26, false)⟩ hHeld ?_
              try simp only [Act.put, List.setIfInBounds_toArray, List.set_cons_zero, List.set_cons_succ]
              refine tkN 28 ⟨some 35, .load 3 (.tmp 34), 3, "ref.go:22", #[⟨27, .data⟩, ⟨26, .guard⟩], some (26, false)⟩ hHeld ?_
              try simp only [Act.put, List.setIfInBounds_toArray, List.set_cons_zero, List.set_cons_succ]
              refine tkN 29 ⟨some 36, .binOp .lss 3 (.tmp 35) (.const (.int .i64 0)) 3, 4, "ref.go:22", #[⟨28, .data⟩, ⟨26, .guard⟩], some (26, false)⟩ hHeld ?_
              try simp only [Act.put, List.setIfInBounds_toArray, List.set_cons_zero, List.set_cons_succ]
              refine tkY 30 ⟨some 37, .pick (.tmp 33) (.const (.bool true)) (.tmp 36), 4, "ref.go:22", #[⟨26, .data⟩, ⟨29, .data⟩], none⟩ ?v30z117 hHeld ?y30z117 ?r30z117
              case y30z117 => (intro w hSw; (try dsimp only at hSw); go_simp) <;> with_reducible rfl
              try simp only [Act.put, List.setIfInBounds_toArray, List.set_cons_zero, List.set_cons_succ]
              refine tkY 31 ⟨some 38, .move (.tmp 37), 4, "ref.go:22", #[⟨30, .data⟩, ⟨26, .chain⟩], none⟩ ?v31z118 hHeld ?y31z118 ?r31z118
              case y31z118 => (intro w hSw; (try dsimp only at hSw); go_simp) <;> with_reducible rfl
              try simp only [Act.put, List.setIfInBounds_toArray, List.set_cons_zero, List.set_cons_succ]
              refine tkN 32 ⟨some 39, .fieldAddr 25 (.tmp 3) 3, 0, "ref.go:22", #[⟨31, .guard⟩], some (31, false)⟩ hHeld ?_
              try simp only [Act.put, List.setIfInBounds_toArray, List.set_cons_zero, List.set_cons_succ]
              refine tkN 33 ⟨some 40, .load 3 (.tmp 39), 3, "ref.go:22", #[⟨32, .data⟩, ⟨31, .guard⟩], some (31, false)⟩ hHeld ?_
              try simp only [Act.put, List.setIfInBounds_toArray, List.set_cons_zero, List.set_cons_succ]
              refine tkN 34 ⟨some 41, .binOp .gtr 3 (.tmp 40) (.const (.int .i64 32)) 3, 4, "ref.go:22", #[⟨33, .data⟩, ⟨31, .guard⟩], some (31, false)⟩ hHeld ?_
              try simp only [Act.put, List.setIfInBounds_toArray, List.set_cons_zero, List.set_cons_succ]
              refine tkY 35 ⟨some 42, .pick (.tmp 38) (.const (.bool true)) (.tmp 41), 4, "ref.go:22", #[⟨31, .data⟩, ⟨34, .data⟩], none⟩ ?v35z119 hHeld ?y35z119 ?r35z119
              case y35z119 => (intro w hSw; (try dsimp only at hSw); go_simp) <;> with_reducible rfl
              try simp only [Act.put, List.setIfInBounds_toArray, List.set_cons_zero, List.set_cons_succ]
              refine tkY 36 ⟨some 43, .move (.tmp 42), 4, "ref.go:22", #[⟨35, .data⟩, ⟨31, .chain⟩], none⟩ ?v36z120 hHeld ?y36z120 ?r36z120
              case y36z120 => (intro w hSw; (try dsimp only at hSw); go_simp) <;> with_reducible rfl
              try simp only [Act.put, List.setIfInBounds_toArray, List.set_cons_zero, List.set_cons_succ]
              refine tkN 37 ⟨some 44, .fieldAddr 25 (.tmp 3) 2, 0, "ref.go:22", #[⟨36, .guard⟩], some (36, false)⟩ hHeld ?_
              try simp only [Act.put, List.setIfInBounds_toArray, List.set_cons_zero, List.set_cons_succ]
              refine tkN 38 ⟨some 45, .load 22 (.tmp 44), 22, "ref.go:22", #[⟨37, .data⟩, ⟨36, .guard⟩], some (36, false)⟩ hHeld ?_
              try simp only [Act.put, List.setIfInBounds_toArray, List.set_cons_zero, List.set_cons_succ]
              refine tkN 39 ⟨some 46, .call { callee := .builtin .len, args := #[.tmp 45], argTypes := #[22] }, 3, "ref.go:22", #[⟨38, .data⟩, ⟨36, .guard⟩], some (36, false)⟩ hHeld ?_
              try simp only [Act.put, List.setIfInBounds_toArray, List.set_cons_zero, List.set_cons_succ]
              refine tkN 40 ⟨some 47, .move (.tmp 0), 3, "ref.go:22", #[⟨36, .guard⟩], some (36, false)⟩ hHeld ?_
              try simp only [Act.put, List.setIfInBounds_toArray, List.set_cons_zero, List.set_cons_succ]
              refine tkN 41 ⟨some 48, .binOp .neq 3 (.tmp 46) (.tmp 47) 3, 4, "ref.go:22", #[⟨39, .data⟩, ⟨40, .data⟩, ⟨36, .guard⟩], some (36, false)⟩ hHeld ?_
              try simp only [Act.put, List.setIfInBounds_toArray, List.set_cons_zero, List.set_cons_succ]
              refine tkY 42 ⟨some 49, .pick (.tmp 43) (.const (.bool true)) (.tmp 48), 4, "ref.go:22", #[⟨36, .data⟩, ⟨41, .data⟩], none⟩ ?v42z121 hHeld ?y42z121 ?r42z121
              case y42z121 => (intro w hSw; (try dsimp only at hSw); go_simp) <;> with_reducible rfl
              try simp only [Act.put, List.setIfInBounds_toArray, List.set_cons_zero, List.set_cons_succ]
              refine tkY 43 ⟨some 50, .move (.tmp 49), 4, "ref.go:22", #[⟨42, .data⟩, ⟨36, .chain⟩], none⟩ ?v43z122 hHeld ?y43z122 ?r43z122
              case y43z122 => (intro w hSw; (try dsimp only at hSw); go_simp) <;> with_reducible rfl
              try simp only [Act.put, List.setIfInBounds_toArray, List.set_cons_zero, List.set_cons_succ]
              refine tkN 44 ⟨some 51, .fieldAddr 25 (.tmp 3) 4, 0, "ref.go:22", #[⟨43, .guard⟩], some (43, false)⟩ hHeld ?_
              try simp only [Act.put, List.setIfInBounds_toArray, List.set_cons_zero, List.set_cons_succ]
              refine tkN 45 ⟨some 52, .load 22 (.tmp 51), 22, "ref.go:22", #[⟨44, .data⟩, ⟨43, .guard⟩], some (43, false)⟩ hHeld ?_
              try simp only [Act.put, List.setIfInBounds_toArray, List.set_cons_zero, List.set_cons_succ]
              refine tkN 46 ⟨some 53, .call { callee := .builtin .len, args := #[.tmp 52], argTypes := #[22] }, 3, "ref.go:22", #[⟨45, .data⟩, ⟨43, .guard⟩], some (43, false)⟩ hHeld ?_
              try simp only [Act.put, List.setIfInBounds_toArray, List.set_cons_zero, List.set_cons_succ]
              refine tkN 47 ⟨some 54, .move (.tmp 0), 3, "ref.go:22", #[⟨43, .guard⟩], some (43, false)⟩ hHeld ?_
              try simp only [Act.put, List.setIfInBounds_toArray, List.set_cons_zero, List.set_cons_succ]
              refine tkN 48 ⟨some 55, .binOp .neq 3 (.tmp 53) (.tmp 54) 3, 4, "ref.go:22", #[⟨46, .data⟩, ⟨47, .data⟩, ⟨43, .guard⟩], some (43, false)⟩ hHeld ?_
              try simp only [Act.put, List.setIfInBounds_toArray, List.set_cons_zero, List.set_cons_succ]
              refine tkY 49 ⟨some 56, .pick (.tmp 50) (.const (.bool true)) (.tmp 55), 4, "ref.go:22", #[⟨43, .data⟩, ⟨48, .data⟩], none⟩ ?v49z123 hHeld ?y49z123 ?r49z123
              case y49z123 => (intro w hSw; (try dsimp only at hSw); go_simp) <;> with_reducible rfl
              try simp only [Act.put, List.setIfInBounds_toArray, List.set_cons_zero, List.set_cons_succ]
              refine tkY 50 ⟨some 57, .move (.tmp 56), 4, "ref.go:22", #[⟨49, .data⟩, ⟨43, .chain⟩], none⟩ ?v50z124 hHeld ?y50z124 ?r50z124
              case y50z124 => (intro w hSw; (try dsimp only at hSw); go_simp) <;> with_reducible rfl
              try simp only [Act.put, List.setIfInBounds_toArray, List.set_cons_zero, List.set_cons_succ]
              refine tkN 51 ⟨some 58, .fieldAddr 25 (.tmp 3) 5, 0, "ref.go:22", #[⟨50, .guard⟩], some (50, false)⟩ hHeld ?_
              try simp only [Act.put, List.setIfInBounds_toArray, List.set_cons_zero, List.set_cons_succ]
              refine tkN 52 ⟨some 59, .load 23 (.tmp 58), 23, "ref.go:22", #[⟨51, .data⟩, ⟨50, .guard⟩], some (50, false)⟩ hHeld ?_
              try simp only [Act.put, List.setIfInBounds_toArray, List.set_cons_zero, List.set_cons_succ]
              refine tkN 53 ⟨some 60, .call { callee := .builtin .len, args := #[.tmp 59], argTypes := #[23] }, 3, "ref.go:22", #[⟨52, .data⟩, ⟨50, .guard⟩], some (50, false)⟩ hHeld ?_
              try simp only [Act.put, List.setIfInBounds_toArray, List.set_cons_zero, List.set_cons_succ]
              refine tkN 54 ⟨some 61, .fieldAddr 25 (.tmp 3) 0, 0, "ref.go:22", #[⟨50, .guard⟩], some (50, false)⟩ hHeld ?_
              try simp only [Act.put, List.setIfInBounds_toArray, List.set_cons_zero, List.set_cons_succ]
              refine tkN 55 ⟨some 62, .load 3 (.tmp 61), 3, "ref.go:22", #[⟨54, .data⟩, ⟨50, .guard⟩], some (50, false)⟩ hHeld ?_
              try simp only [Act.put, List.setIfInBounds_toArray, List.set_cons_zero, List.set_cons_succ]
              refine tkN 56 ⟨some 63, .call { callee := .value (.func 40), args := #[.tmp 62], argTypes := #[3] }, 3, "ref.go:22", #[⟨55, .data⟩, ⟨50, .chain⟩, ⟨50, .guard⟩], some (50, false)⟩ hHeld ?_
              try simp only [Act.put, List.setIfInBounds_toArray, List.set_cons_zero, List.set_cons_succ]
              refine tkN 57 ⟨some 64, .binOp .neq 3 (.tmp 60) (.tmp 63) 3, 4, "ref.go:22", #[⟨53, .data⟩, ⟨56, .data⟩, ⟨50, .guard⟩], some (50, false)⟩ hHeld ?_
              try simp only [Act.put, List.setIfInBounds_toArray, List.set_cons_zero, List.set_cons_succ]
              refine tkY 58 ⟨some 65, .pick (.tmp 57) (.const (.bool true)) (.tmp 64), 4, "ref.go:22", #[⟨50, .data⟩, ⟨57, .data⟩], none⟩ ?v58z125 hHeld ?y58z125 ?r58z125
              case y58z125 => (intro w hSw; (try dsimp only at hSw); go_simp) <;> with_reducible rfl
              try simp only [Act.put, List.setIfInBounds_toArray, List.set_cons_zero, List.set_cons_succ]
              refine wpAnyH_done (by kernel_rfl) ?_ _
              have HR : Hid (canB size ⟨e, t, c, tr, li, lk⟩ = false) := canB_no (by rintro ⟨q1, q2, q3, q4, q5, q6, q7, q8, q9, q10, q11, _⟩; dsimp only at q3 q4 q5 q6 q7 q8 q9 q10 q11; (try rw [HN.out] at q9); omega)
              have HW : Hid (Below w.heap.size w V.drew) := bA.trans (bD.mono bA.size)
              clear hHeld hcells bD bA k3 hLC
              go_wp2
              go_ret
              rw [HR.out]
              exact ⟨rfl, HW.out⟩
            · have d24 : decide ((1125899906842624 : Int) < t) = false := by simpa using hc24
              refine tkY 24 ⟨some 31, .binOp .gtr 3 (.tmp 30) (.const (.int .i64 1125899906842624)) 3, 4, "ref.go:22", #[⟨23, .data⟩, ⟨21, .guard⟩], some (21, false)⟩ ?v24z126 hHeld ?y24z126 ?r24z126
              case y24z126 => (intro w hSw; (try dsimp only at hSw); go_simp) <;> with_reducible rfl
              try simp only [Act.put, List.setIfInBounds_toArray, List.set_cons_zero, List.set_cons_succ]
              refine tkY 25 ⟨some 32, .pick (.tmp 28) (.const (.bool true)) (.tmp 31), 4, "ref.go:22", #[⟨21, .data⟩, ⟨24, .data⟩], none⟩ ?v25z127 hHeld ?y25z127 ?r25z127
              case y25z127 => (intro w hSw; (try dsimp only at hSw); go_simp) <;> with_reducible rfl
              try simp only [Act.put, List.setIfInBounds_toArray, List.set_cons_zero, List.set_cons_succ]
              refine tkY 26 ⟨some 33, .move (.tmp 32), 4, "ref.go:22", #[⟨25, .data⟩, ⟨21, .chain⟩], none⟩ ?v26z128 hHeld ?y26z128 ?r26z128
              case y26z128 => (intro w hSw; (try dsimp only at hSw); go_simp) <;> with_reducible rfl
              try simp only [Act.put, List.setIfInBounds_toArray, List.set_cons_zero, List.set_cons_succ]
              refine tkY 27 ⟨some 34, .fieldAddr 25 (.tmp 3) 3, 0, "ref.go:22", #[⟨26, .guard⟩], some (26, false)⟩ ?v27z129 hHeld ?y27z129 ?r27z129
              case y27z129 => (intro w hSw; (try dsimp only at hSw); go_simp) <;> with_reducible rfl
              try simp only [Act.put, List.setIfInBounds_toArray, List.set_cons_zero, List.set_cons_succ]
              refine tkY 28 ⟨some 35, .load 3 (.tmp 34), 3, "ref.go:22", #[⟨27, .data⟩, ⟨26, .guard⟩], some (26, false)⟩ ?v28z130 hHeld ?y28z130 ?r28z130
              case y28z130 => (intro w hSw; (try dsimp only at hSw); go_simp) <;> with_reducible rfl
              try simp only [Act.put, List.setIfInBounds_toArray, List.set_cons_zero, List.set_cons_succ]
              by_cases hc29 : c < 0
              · refine tkY 29 ⟨some 36, .binOp .lss 3 (.tmp 35) (.const (.int .i64 0)) 3, 4, "ref.go:22", #[⟨28, .data⟩, ⟨26, .guard⟩], some (26, false)⟩ ?v29z131 hHeld ?y29z131 ?r29z131
                case y29z131 => (intro w hSw; (try dsimp only at hSw); go_simp) <;> with_reducible rfl
                try simp only [Act.put, List.setIfInBounds_toArray, List.set_cons_zero, List.set_cons_succ]
                refine tkY 30 ⟨some 37, .pick (.tmp 33) (.const (.bool true)) (.tmp 36), 4, "ref.go:22", #[⟨26, .data⟩, ⟨29, .data⟩], none⟩ ?v30z132 hHeld ?y30z132 ?r30z132
                case y30z132 => (intro w hSw; (try dsimp only at hSw); go_simp) <;> with_reducible rfl
                try simp only [Act.put, List.setIfInBounds_toArray, List.set_cons_zero, List.set_cons_succ]
                refine tkY 31 ⟨some 38, .move (.tmp 37), 4, "ref.go:22", #[⟨30, .data⟩, ⟨26, .chain⟩], none⟩ ?v31z133 hHeld ?y31z133 ?r31z133
                case y31z133 => (intro w hSw; (try dsimp only at hSw); go_simp) <;> with_reducible rfl
                try simp only [Act.put, List.setIfInBounds_toArray, List.set_cons_zero, List.set_cons_succ]
                refine tkN 32 ⟨some 39, .fieldAddr 25 (.tmp 3) 3, 0, "ref.go:22", #[⟨31, .guard⟩], some (31, false)⟩ hHeld ?_
                try simp only [Act.put, List.setIfInBounds_toArray, List.set_cons_zero, List.set_cons_succ]
                refine tkN 33 ⟨some 40, .load 3 (.tmp 39), 3, "ref.go:22", #[⟨32, .data⟩, ⟨31, .guard⟩], some (31, false)⟩ hHeld ?_
                try simp only [Act.put, List.setIfInBounds_toArray, List.set_cons_zero, List.set_cons_succ]
                refine tkN 34 ⟨some 41, .binOp .gtr 3 (.tmp 40) (.const (.int .i64 32)) 3, 4, "ref.go:22", #[⟨33, .data⟩, ⟨31, .guard⟩], some (31, false)⟩ hHeld ?_
                try simp only [Act.put, List.setIfInBounds_toArray, List.set_cons_zero, List.set_cons_succ]
                refine tkY 35 ⟨some 42, .pick (.tmp 38) (.const (.bool true)) (.tmp 41), 4, "ref.go:22", #[⟨31, .data⟩, ⟨34, .data⟩], none⟩ ?v35z134 hHeld ?y35z134 ?r35z134
                case y35z134 => (intro w hSw; (try dsimp only at hSw); go_simp) <;> with_reducible rfl
                try simp only [Act.put, List.setIfInBounds_toArray, List.set_cons_zero, List.set_cons_succ]
                refine tkY 36 ⟨some 43, .move (.tmp 42), 4, "ref.go:22", #[⟨35, .data⟩, ⟨31, .chain⟩], none⟩ ?v36z135 hHeld ?y36z135 ?r36z135
                case y36z135 => (intro w hSw; (try dsimp only at hSw); go_simp) <;> with_reducible rfl
                try simp only [Act.put, List.setIfInBounds_toArray, List.set_cons_zero, List.set_cons_succ]
                refine tkN 37 ⟨some 44, .fieldAddr 25 (.tmp 3) 2, 0, "ref.go:22", #[⟨36, .guard⟩], some (36, false)⟩ hHeld ?_
                try simp only [Act.put, List.setIfInBounds_toArray, List.set_cons_zero, List.set_cons_succ]
                refine tkN 38 ⟨some 45, .load 22 (.tmp 44), 22, "ref.go:22", #[⟨37, .data⟩, ⟨36, .guard⟩], some (36, false)⟩ hHeld ?_
                try simp only [Act.put, List.setIfInBounds_toArray, List.set_cons_zero, List.set_cons_succ]
                refine tkN 39 ⟨some 46, .call { callee := .builtin .len, args := #[.tmp 45], argTypes := #[22] }, 3, "ref.go:22", #[⟨38, .data⟩, ⟨36, .guard⟩], some (36, false)⟩ hHeld ?_
                try simp only [Act.put, List.setIfInBounds_toArray, List.set_cons_zero, List.set_cons_succ]
                refine tkN 40 ⟨some 47, .move (.tmp 0), 3, "ref.go:22", #[⟨36, .guard⟩], some (36, false)⟩ hHeld ?_
                try simp only [Act.put, List.setIfInBounds_toArray, List.set_cons_zero, List.set_cons_succ]
                refine tkN 41 ⟨some 48, .binOp .neq 3 (.tmp 46) (.tmp 47) 3, 4, "ref.go:22", #[⟨39, .data⟩, ⟨40, .data⟩, ⟨36, .guard⟩], some (36, false)⟩ hHeld ?_
                try simp only [Act.put, List.setIfInBounds_toArray, List.set_cons_zero, List.set_cons_succ]
                refine tkY 42 ⟨some 49, .pick (.tmp 43) (.const (.bool true)) (.tmp 48), 4, "ref.go:22", #[⟨36, .data⟩, ⟨41, .data⟩], none⟩ ?v42z136 hHeld ?y42z136 ?r42z136
                case y42z136 => (intro w hSw; (try dsimp only at hSw); go_simp) <;> with_reducible rfl
                try simp only [Act.put, List.setIfInBounds_toArray, List.set_cons_zero, List.set_cons_succ]
                refine tkY 43 ⟨some 50, .move (.tmp 49), 4, "ref.go:22", #[⟨42, .data⟩, ⟨36, .chain⟩], none⟩ ?v43z137 hHeld ?y43z137 ?r43z137
                case y43z137 => (intro w hSw; (try dsimp only at hSw); go_simp) <;> with_reducible rfl
                try simp only [Act.put, List.setIfInBounds_toArray, List.set_cons_zero, List.set_cons_succ]
                refine tkN 44 ⟨some 51, .fieldAddr 25 (.tmp 3) 4, 0, "ref.go:22", #[⟨43, .guard⟩], some (43, false)⟩ hHeld ?_
                try simp only [Act.put, List.setIfInBounds_toArray, List.set_cons_zero, List.set_cons_succ]
                refine tkN 45 ⟨some 52, .load 22 (.tmp 51), 22, "ref.go:22", #[⟨44, .data⟩, ⟨43, .guard⟩], some (43, false)⟩ hHeld ?_
                try simp only [Act.put, List.setIfInBounds_toArray, List.set_cons_zero, List.set_cons_succ]
                refine tkN 46 ⟨some 53, .call { callee := .builtin .len, args := #[.tmp 52], argTypes := #[22] }, 3, "ref.go:22", #[⟨45, .data⟩, ⟨43, .guard⟩], some (43, false)⟩ hHeld ?_
                try simp only [Act.put, List.setIfInBounds_toArray, List.set_cons_zero, List.set_cons_succ]
                refine tkN 47 ⟨some 54, .move (.tmp 0), 3, "ref.go:22", #[⟨43, .guard⟩], some (43, false)⟩ hHeld ?_
                try simp only [Act.put, List.setIfInBounds_toArray, List.set_cons_zero, List.set_cons_succ]
                refine tkN 48 ⟨some 55, .binOp .neq 3 (.tmp 53) (.tmp 54) 3, 4, "ref.go:22", #[⟨46, .data⟩, ⟨47, .data⟩, ⟨43, .guard⟩], some (43, false)⟩ hHeld ?_
                try simp only [Act.put, List.setIfInBounds_toArray, List.set_cons_zero, List.set_cons_succ]
                refine tkY 49 ⟨some 56, .pick (.tmp 50) (.const (.bool true)) (.tmp 55), 4, "ref.go:22", #[⟨43, .data⟩, ⟨48, .data⟩], none⟩ ?v49z138 hHeld ?y49z138 ?r49z138
                case y49z138 => (intro w hSw; (try dsimp only at hSw); go_simp) <;> with_reducible rfl
                try simp only [Act.put, List.setIfInBounds_toArray, List.set_cons_zero, List.set_cons_succ]
                refine tkY 50 ⟨some 57, .move (.tmp 56), 4, "ref.go:22", #[⟨49, .data⟩, ⟨43, .chain⟩], none⟩ ?v50z139 hHeld ?y50z139 ?r50z139
                case y50z139 => (intro w hSw; (try dsimp only at hSw); go_simp) <;> with_reducible rfl
                try simp only [Act.put, List.setIfInBounds_toArray, List.set_cons_zero, List.set_cons_succ]
                refine tkN 51 ⟨some 58, .fieldAddr 25 (.tmp 3) 5, 0, "ref.go:22", #[⟨50, .guard⟩], some (50, false)⟩ hHeld ?_
                try simp only [Act.put, List.setIfInBounds_toArray, List.set_cons_zero, List.set_cons_succ]
                refine tkN 52 ⟨some 59, .load 23 (.tmp 58), 23, "ref.go:22", #[⟨51, .data⟩, ⟨50, .guard⟩], some (50, false)⟩ hHeld ?_
                try simp only [Act.put, List.setIfInBounds_toArray, List.set_cons_zero, List.set_cons_succ]
                refine tkN 53 ⟨some 60, .call { callee := .builtin .len, args := #[.tmp 59], argTypes := #[23] }, 3, "ref.go:22", #[⟨52, .data⟩, ⟨50, .guard⟩], some (50, false)⟩ hHeld ?_
                try simp only [Act.put, List.setIfInBounds_toArray, List.set_cons_zero, List.set_cons_succ]
                refine tkN 54 ⟨some 61, .fieldAddr 25 (.tmp 3) 0, 0, "ref.go:22", #[⟨50, .guard⟩], some (50, false)⟩ hHeld ?_
                try simp only [Act.put, List.setIfInBounds_toArray, List.set_cons_zero, List.set_cons_succ]
                refine tkN 55 ⟨some 62, .load 3 (.tmp 61), 3, "ref.go:22", #[⟨54, .data⟩, ⟨50, .guard⟩], some (50, false)⟩ hHeld ?_
                try simp only [Act.put, List.setIfInBounds_toArray, List.set_cons_zero, List.set_cons_succ]
                refine tkN 56 ⟨some 63, .call { callee := .value (.func 40), args := #[.tmp 62], argTypes := #[3] }, 3, "ref.go:22", #[⟨55, .data⟩, ⟨50, .chain⟩, ⟨50, .guard⟩], some (50, false)⟩ hHeld ?_
                try simp only [Act.put, List.setIfInBounds_toArray, List.set_cons_zero, List.set_cons_succ]
                refine tkN 57 ⟨some 64, .binOp .neq 3 (.tmp 60) (.tmp 63) 3, 4, "ref.go:22", #[⟨53, .data⟩, ⟨56, .data⟩, ⟨50, .guard⟩], some (50, false)⟩ hHeld ?_
                try simp only [Act.put, List.setIfInBounds_toArray, List.set_cons_zero, List.set_cons_succ]
                refine tkY 58 ⟨some 65, .pick (.tmp 57) (.const (.bool true)) (.tmp 64), 4, "ref.go:22", #[⟨50, .data⟩, ⟨57, .data⟩], none⟩ ?v58z140 hHeld ?y58z140 ?r58z140
                case y58z140 => (intro w hSw; (try dsimp only at hSw); go_simp) <;> with_reducible rfl
                try simp only [Act.put, List.setIfInBounds_toArray, List.set_cons_zero, List.set_cons_succ]
                refine wpAnyH_done (by kernel_rfl) ?_ _
                have HR : Hid (canB size ⟨e, t, c, tr, li, lk⟩ = false) := canB_no (by rintro ⟨q1, q2, q3, q4, q5, q6, q7, q8, q9, q10, q11, _⟩; dsimp only at q3 q4 q5 q6 q7 q8 q9 q10 q11; (try rw [HN.out] at q9); omega)
                have HW : Hid (Below w.heap.size w V.drew) := bA.trans (bD.mono bA.size)
                clear hHeld hcells bD bA k3 hLC
                go_wp2
                go_ret
                rw [HR.out]
                exact ⟨rfl, HW.out⟩
              · have d29 : decide (c < 0) = false := by simpa using hc29
                refine tkY 29 ⟨some 36, .binOp .lss 3 (.tmp 35) (.const (.int .i64 0)) 3, 4, "ref.go:22", #[⟨28, .data⟩, ⟨26, .guard⟩], some (26, false)⟩ ?v29z141 hHeld ?y29z141 ?r29z141
                case y29z141 => (intro w hSw; (try dsimp only at hSw); go_simp) <;> with_reducible rfl
                try simp only [Act.put, List.setIfInBounds_toArray, List.set_cons_zero, List.set_cons_succ]
                refine tkY 30 ⟨some 37, .pick (.tmp 33) (.const (.bool true)) (.tmp 36), 4, "ref.go:22", #[⟨26, .data⟩, ⟨29, .data⟩], none⟩ ?v30z142 hHeld ?y30z142 ?r30z142
                case y30z142 => (intro w hSw; (try dsimp only at hSw); go_simp) <;> with_reducible rfl
                try simp only [Act.put, List.setIfInBounds_toArray, List.set_cons_zero, List.set_cons_succ]
                refine tkY 31 ⟨some 38, .move (.tmp 37), 4, "ref.go:22", #[⟨30, .data⟩, ⟨26, .chain⟩], none⟩ ?v31z143 hHeld ?y31z143 ?r31z143
                case y31z143 => (intro w hSw; (try dsimp only at hSw); go_simp) <;> with_reducible rfl
                try simp only [Act.put, List.setIfInBounds_toArray, List.set_cons_zero, List.set_cons_succ]
                refine tkY 32 ⟨some 39, .fieldAddr 25 (.tmp 3) 3, 0, "ref.go:22", #[⟨31, .guard⟩], some (31, false)⟩ ?v32z144 hHeld ?y32z144 ?r32z144
                case y32z144 => (intro w hSw; (try dsimp only at hSw); go_simp) <;> with_reducible rfl
                try simp only [Act.put, List.setIfInBounds_toArray, List.set_cons_zero, List.set_cons_succ]
                refine tkY 33 ⟨some 40, .load 3 (.tmp 39), 3, "ref.go:22", #[⟨32, .data⟩, ⟨31, .guard⟩], some (31, false)⟩ ?v33z145 hHeld ?y33z145 ?r33z145
                case y33z145 => (intro w hSw; (try dsimp only at hSw); go_simp) <;> with_reducible rfl
                try simp only [Act.put, List.setIfInBounds_toArray, List.set_cons_zero, List.set_cons_succ]
                by_cases hc34 : (32 : Int) < c
                · refine tkY 34 ⟨some 41, .binOp .gtr 3 (.tmp 40) (.const (.int .i64 32)) 3, 4, "ref.go:22", #[⟨33, .data⟩, ⟨31, .guard⟩], some (31, false)⟩ ?v34z146 hHeld ?y34z146 ?r34z146
                  case y34z146 => (intro w hSw; (try dsimp only at hSw); go_simp) <;> with_reducible rfl
                  try simp only [Act.put, List.setIfInBounds_toArray, List.set_cons_zero, List.set_cons_succ]
                  refine tkY 35 ⟨some 42, .pick (.tmp 38) (.const (.bool true)) (.tmp 41), 4, "ref.go:22", #[⟨31, .data⟩, ⟨34, .data⟩], none⟩ ?v35z147 hHeld ?y35z147 ?r35z147
                  case y35z147 => (intro w hSw; (try dsimp only at hSw); go_simp) <;> with_reducible rfl
                  try simp only [Act.put, List.setIfInBounds_toArray, List.set_cons_zero, List.set_cons_succ]
                  refine tkY 36 ⟨some 43, .move (.tmp 42), 4, "ref.go:22", #[⟨35, .data⟩, ⟨31, .chain⟩], none⟩ ?v36z148 hHeld ?y36z148 ?r36z148
                  case y36z148 => (intro w hSw; (try dsimp only at hSw); go_simp) <;> with_reducible rfl
                  try simp only [Act.put, List.setIfInBounds_toArray, List.set_cons_zero, List.set_cons_succ]
                  refine tkN 37 ⟨some 44, .fieldAddr 25 (.tmp 3) 2, 0, "ref.go:22", #[⟨36, .guard⟩], some (36, false)⟩ hHeld ?_
                  try simp only [Act.put, List.setIfInBounds_toArray, List.set_cons_zero, List.set_cons_succ]
                  refine tkN 38 ⟨some 45, .load 22 (.tmp 44), 22, "ref.go:22", #[⟨37, .data⟩, ⟨36, .guard⟩], some (36, false)⟩ hHeld ?_
                  try simp only [Act.put, List.setIfInBounds_toArray, List.set_cons_zero, List.set_cons_succ]
                  refine tkN 39 ⟨some 46, .call { callee := .builtin .len, args := #[.tmp 45], argTypes := #[22] }, 3, "ref.go:22", #[⟨38, .data⟩, ⟨36, .guard⟩], some (36, false)⟩ hHeld ?_
                  try simp only [Act.put, List.setIfInBounds_toArray, List.set_cons_zero, List.set_cons_succ]
                  refine tkN 40 ⟨some 47, .move (.tmp 0), 3, "ref.go:22", #[⟨36, .guard⟩], some (36, false)⟩ hHeld ?_
                  try simp only [Act.put, List.setIfInBounds_toArray, List.set_cons_zero, List.set_cons_succ]
                  refine tkN 41 ⟨some 48, .binOp .neq 3 (.tmp 46) (.tmp 47) 3, 4, "ref.go:22", #[⟨39, .data⟩, ⟨40, .data⟩, ⟨36, .guard⟩], some (36, false)⟩ hHeld ?_
                  try simp only [Act.put, List.setIfInBounds_toArray, List.set_cons_zero, List.set_cons_succ]
                  refine tkY 42 ⟨some 49, .pick (.tmp 43) (.const (.bool true)) (.tmp 48), 4, "ref.go:22", #[⟨36, .data⟩, ⟨41, .data⟩], none⟩ ?v42z149 hHeld ?y42z149 ?r42z149
                  case y42z149 => (intro w hSw; (try dsimp only at hSw); go_simp) <;> with_reducible rfl
                  try simp only [Act.put, List.setIfInBounds_toArray, List.set_cons_zero, List.set_cons_succ]
                  refine tkY 43 ⟨some 50, .move (.tmp 49), 4, "ref.go:22", #[⟨42, .data⟩, ⟨36, .chain⟩], none⟩ ?v43z150 hHeld ?y43z150 ?r43z150
                  case y43z150 => (intro w hSw; (try dsimp only at hSw); go_simp) <;> with_reducible rfl
                  try simp only [Act.put, List.setIfInBounds_toArray, List.set_cons_zero, List.set_cons_succ]
                  refine tkN 44 ⟨some 51, .fieldAddr 25 (.tmp 3) 4, 0, "ref.go:22", #[⟨43, .guard⟩], some (43, false)⟩ hHeld ?_
                  try simp only [Act.put, List.setIfInBounds_toArray, List.set_cons_zero, List.set_cons_succ]
                  refine tkN 45 ⟨some 52, .load 22 (.tmp 51), 22, "ref.go:22", #[⟨44, .data⟩, ⟨43, .guard⟩], some (43, false)⟩ hHeld ?_
                  try simp only [Act.put, List.setIfInBounds_toArray, List.set_cons_zero, List.set_cons_succ]
                  refine tkN 46 ⟨some 53, .call { callee := .builtin .len, args := #[.tmp 52], argTypes := #[22] }, 3, "ref.go:22", #[⟨45, .data⟩, ⟨43, .guard⟩], some (43, false)⟩ hHeld ?_
                  try simp only [Act.put, List.setIfInBounds_toArray, List.set_cons_zero, List.set_cons_succ]
                  refine tkN 47 ⟨some 54, .move (.tmp 0), 3, "ref.go:22", #[⟨43, .guard⟩], some (43, false)⟩ hHeld ?_
                  try simp only [Act.put, List.setIfInBounds_toArray, List.set_cons_zero, List.set_cons_succ]
                  refine tkN 48 ⟨some 55, .binOp .neq 3 (.tmp 53) (.tmp 54) 3, 4, "ref.go:22", #[⟨46, .data⟩, ⟨47, .data⟩, ⟨43, .guard⟩], some (43, false)⟩ hHeld ?_
                  try simp only [Act.put, List.setIfInBounds_toArray, List.set_cons_zero, List.set_cons_succ]
                  refine tkY 49 ⟨some 56, .pick (.tmp 50) (.const (.bool true)) (.tmp 55), 4, "ref.go:22", #[⟨43, .data⟩, ⟨48, .data⟩], none⟩ ?v49z151 hHeld ?y49z151 ?r49z151
                  case y49z151 => (intro w hSw; (try dsimp only at hSw); go_simp) <;> with_reducible rfl
                  try simp only [Act.put, List.setIfInBounds_toArray, List.set_cons_zero, List.set_cons_succ]
                  refine tkY 50 ⟨some 57, .move (.tmp 56), 4, "ref.go:22", #[⟨49, .data⟩, ⟨43, .chain⟩], none⟩ ?v50z152 hHeld ?y50z152 ?r50z152
                  case y50z152 => (intro w hSw; (try dsimp only at hSw); go_simp) <;> with_reducible rfl
                  try simp only [Act.put, List.setIfInBounds_toArray, List.set_cons_zero, List.set_cons_succ]
                  refine tkN 51 ⟨some 58, .fieldAddr 25 (.tmp 3) 5, 0, "ref.go:22", #[⟨50, .guard⟩], some (50, false)⟩ hHeld ?_
                  try simp only [Act.put, List.setIfInBounds_toArray, List.set_cons_zero, List.set_cons_succ]
                  refine tkN 52 ⟨some 59, .load 23 (.tmp 58), 23, "ref.go:22", #[⟨51, .data⟩, ⟨50, .guard⟩], some (50, false)⟩ hHeld ?_
                  try simp only [Act.put, List.setIfInBounds_toArray, List.set_cons_zero, List.set_cons_succ]
                  refine tkN 53 ⟨some 60, .call { callee := .builtin .len, args := #[.tmp 59], argTypes := #[23] }, 3, "ref.go:22", #[⟨52, .data⟩, ⟨50, .guard⟩], some (50, false)⟩ hHeld ?_
                  try simp only [Act.put, List.setIfInBounds_toArray, List.set_cons_zero, List.set_cons_succ]
                  refine tkN 54 ⟨some 61, .fieldAddr 25 (.tmp 3) 0, 0, "ref.go:22", #[⟨50, .guard⟩], some (50, false)⟩ hHeld ?_
                  try simp only [Act.put, List.setIfInBounds_toArray, List.set_cons_zero, List.set_cons_succ]
                  refine tkN 55 ⟨some 62, .load 3 (.tmp 61), 3, "ref.go:22", #[⟨54, .data⟩, ⟨50, .guard⟩], some (50, false)⟩ hHeld ?_
                  try simp only [Act.put, List.setIfInBounds_toArray, List.set_cons_zero, List.set_cons_succ]
                  refine tkN 56 ⟨some 63, .call { callee := .value (.func 40), args := #[.tmp 62], argTypes := #[3] }, 3, "ref.go:22", #[⟨55, .data⟩, ⟨50, .chain⟩, ⟨50, .guard⟩], some (50, false)⟩ hHeld ?_
                  try simp only [Act.put, List.setIfInBounds_toArray, List.set_cons_zero, List.set_cons_succ]
                  refine tkN 57 ⟨some 64, .binOp .neq 3 (.tmp 60) (.tmp 63) 3, 4, "ref.go:22", #[⟨53, .data⟩, ⟨56, .data⟩, ⟨50, .guard⟩], some (50, false)⟩ hHeld ?_
                  try simp only [Act.put, List.setIfInBounds_toArray, List.set_cons_zero, List.set_cons_succ]
                  refine tkY 58 ⟨some 65, .pick (.tmp 57) (.const (.bool true)) (.tmp 64), 4, "ref.go:22", #[⟨50, .data⟩, ⟨57, .data⟩], none⟩ ?v58z153 hHeld ?y58z153 ?r58z153
                  case y58z153 => (intro w hSw; (try dsimp only at hSw); go_simp) <;> with_reducible rfl
                  try simp only [Act.put, List.setIfInBounds_toArray, List.set_cons_zero, List.set_cons_succ]
                  refine wpAnyH_done (by kernel_rfl) ?_ _
                  have HR : Hid (canB size ⟨e, t, c, tr, li, lk⟩ = false) := canB_no (by rintro ⟨q1, q2, q3, q4, q5, q6, q7, q8, q9, q10, q11, _⟩; dsimp only at q3 q4 q5 q6 q7 q8 q9 q10 q11; (try rw [HN.out] at q9); omega)
                  have HW : Hid (Below w.heap.size w V.drew) := bA.trans (bD.mono bA.size)
                  clear hHeld hcells bD bA k3 hLC
                  go_wp2
                  go_ret
                  rw [HR.out]
                  exact ⟨rfl, HW.out⟩
                · have d34 : decide ((32 : Int) < c) = false := by simpa using hc34
                  refine tkY 34 ⟨some 41, .binOp .gtr 3 (.tmp 40) (.const (.int .i64 32)) 3, 4, "ref.go:22", #[⟨33, .data⟩, ⟨31, .guard⟩], some (31, false)⟩ ?v34z154 hHeld ?y34z154 ?r34z154
                  case y34z154 => (intro w hSw; (try dsimp only at hSw); go_simp) <;> with_reducible rfl
                  try simp only [Act.put, List.setIfInBounds_toArray, List.set_cons_zero, List.set_cons_succ]
                  refine tkY 35 ⟨some 42, .pick (.tmp 38) (.const (.bool true)) (.tmp 41), 4, "ref.go:22", #[⟨31, .data⟩, ⟨34, .data⟩], none⟩ ?v35z155 hHeld ?y35z155 ?r35z155
                  case y35z155 => (intro w hSw; (try dsimp only at hSw); go_simp) <;> with_reducible rfl
                  try simp only [Act.put, List.setIfInBounds_toArray, List.set_cons_zero, List.set_cons_succ]
                  refine tkY 36 ⟨some 43, .move (.tmp 42), 4, "ref.go:22", #[⟨35, .data⟩, ⟨31, .chain⟩], none⟩ ?v36z156 hHeld ?y36z156 ?r36z156
                  case y36z156 => (intro w hSw; (try dsimp only at hSw); go_simp) <;> with_reducible rfl
                  try simp only [Act.put, List.setIfInBounds_toArray, List.set_cons_zero, List.set_cons_succ]
                  refine tkY 37 ⟨some 44, .fieldAddr 25 (.tmp 3) 2, 0, "ref.go:22", #[⟨36, .guard⟩], some (36, false)⟩ ?v37z157 hHeld ?y37z157 ?r37z157
                  case y37z157 => (intro w hSw; (try dsimp only at hSw); go_simp) <;> with_reducible rfl
                  try simp only [Act.put, List.setIfInBounds_toArray, List.set_cons_zero, List.set_cons_succ]
                  refine tkY 38 ⟨some 45, .load 22 (.tmp 44), 22, "ref.go:22", #[⟨37, .data⟩, ⟨36, .guard⟩], some (36, false)⟩ ?v38z158 hHeld ?y38z158 ?r38z158
                  case y38z158 => (intro w hSw; (try dsimp only at hSw); go_simp) <;> with_reducible rfl
                  try simp only [Act.put, List.setIfInBounds_toArray, List.set_cons_zero, List.set_cons_succ]
                  refine tkY 39 ⟨some 46, .call { callee := .builtin .len, args := #[.tmp 45], argTypes := #[22] }, 3, "ref.go:22", #[⟨38, .data⟩, ⟨36, .guard⟩], some (36, false)⟩ ?v39z159 hHeld ?y39z159 ?r39z159
                  case y39z159 => (intro w hSw; (try dsimp only at hSw); go_simp) <;> with_reducible rfl
                  try simp only [Act.put, List.setIfInBounds_toArray, List.set_cons_zero, List.set_cons_succ]
                  refine tkY 40 ⟨some 47, .move (.tmp 0), 3, "ref.go:22", #[⟨36, .guard⟩], some (36, false)⟩ ?v40z160 hHeld ?y40z160 ?r40z160
                  case y40z160 => (intro w hSw; (try dsimp only at hSw); go_simp) <;> with_reducible rfl
                  try simp only [Act.put, List.setIfInBounds_toArray, List.set_cons_zero, List.set_cons_succ]
                  by_cases hc41 : (tr.length : Int) = size
                  · have d41 : ((tr.length : Int) != size) = false := by simpa using hc41
                    have g41 : Hid ((tr.length : Int) = size) := hc41
                    clear hc41
                    refine tkY 41 ⟨some 48, .binOp .neq 3 (.tmp 46) (.tmp 47) 3, 4, "ref.go:22", #[⟨39, .data⟩, ⟨40, .data⟩, ⟨36, .guard⟩], some (36, false)⟩ ?v41z161 hHeld ?y41z161 ?r41z161
                    case y41z161 => (intro w hSw; (try dsimp only at hSw); go_simp) <;> with_reducible rfl
                    try simp only [Act.put, List.setIfInBounds_toArray, List.set_cons_zero, List.set_cons_succ]
                    refine tkY 42 ⟨some 49, .pick (.tmp 43) (.const (.bool true)) (.tmp 48), 4, "ref.go:22", #[⟨36, .data⟩, ⟨41, .data⟩], none⟩ ?v42z162 hHeld ?y42z162 ?r42z162
                    case y42z162 => (intro w hSw; (try dsimp only at hSw); go_simp) <;> with_reducible rfl
                    try simp only [Act.put, List.setIfInBounds_toArray, List.set_cons_zero, List.set_cons_succ]
                    refine tkY 43 ⟨some 50, .move (.tmp 49), 4, "ref.go:22", #[⟨42, .data⟩, ⟨36, .chain⟩], none⟩ ?v43z163 hHeld ?y43z163 ?r43z163
                    case y43z163 => (intro w hSw; (try dsimp only at hSw); go_simp) <;> with_reducible rfl
                    try simp only [Act.put, List.setIfInBounds_toArray, List.set_cons_zero, List.set_cons_succ]
                    refine tkY 44 ⟨some 51, .fieldAddr 25 (.tmp 3) 4, 0, "ref.go:22", #[⟨43, .guard⟩], some (43, false)⟩ ?v44z164 hHeld ?y44z164 ?r44z164
                    case y44z164 => (intro w hSw; (try dsimp only at hSw); go_simp) <;> with_reducible rfl
                    try simp only [Act.put, List.setIfInBounds_toArray, List.set_cons_zero, List.set_cons_succ]
                    refine tkY 45 ⟨some 52, .load 22 (.tmp 51), 22, "ref.go:22", #[⟨44, .data⟩, ⟨43, .guard⟩], some (43, false)⟩ ?v45z165 hHeld ?y45z165 ?r45z165
                    case y45z165 => (intro w hSw; (try dsimp only at hSw); go_simp) <;> with_reducible rfl
                    try simp only [Act.put, List.setIfInBounds_toArray, List.set_cons_zero, List.set_cons_succ]
                    refine tkY 46 ⟨some 53, .call { callee := .builtin .len, args := #[.tmp 52], argTypes := #[22] }, 3, "ref.go:22", #[⟨45, .data⟩, ⟨43, .guard⟩], some (43, false)⟩ ?v46z166 hHeld ?y46z166 ?r46z166
                    case y46z166 => (intro w hSw; (try dsimp only at hSw); go_simp) <;> with_reducible rfl
                    try simp only [Act.put, List.setIfInBounds_toArray, List.set_cons_zero, List.set_cons_succ]
                    refine tkY 47 ⟨some 54, .move (.tmp 0), 3, "ref.go:22", #[⟨43, .guard⟩], some (43, false)⟩ ?v47z167 hHeld ?y47z167 ?r47z167
                    case y47z167 => (intro w hSw; (try dsimp only at hSw); go_simp) <;> with_reducible rfl
                    try simp only [Act.put, List.setIfInBounds_toArray, List.set_cons_zero, List.set_cons_succ]
                    by_cases hc48 : (li.length : Int) = size
                    · have d48 : ((li.length : Int) != size) = false := by simpa using hc48
                      have g48 : Hid ((li.length : Int) = size) := hc48
                      clear hc48
                      refine tkY 48 ⟨some 55, .binOp .neq 3 (.tmp 53) (.tmp 54) 3, 4, "ref.go:22", #[⟨46, .data⟩, ⟨47, .data⟩, ⟨43, .guard⟩], some (43, false)⟩ ?v48z168 hHeld ?y48z168 ?r48z168
                      case y48z168 => (intro w hSw; (try dsimp only at hSw); go_simp) <;> with_reducible rfl
                      try simp only [Act.put, List.setIfInBounds_toArray, List.set_cons_zero, List.set_cons_succ]
                      refine tkY 49 ⟨some 56, .pick (.tmp 50) (.const (.bool true)) (.tmp 55), 4, "ref.go:22", #[⟨43, .data⟩, ⟨48, .data⟩], none⟩ ?v49z169 hHeld ?y49z169 ?r49z169
                      case y49z169 => (intro w hSw; (try dsimp only at hSw); go_simp) <;> with_reducible rfl
                      try simp only [Act.put, List.setIfInBounds_toArray, List.set_cons_zero, List.set_cons_succ]
                      refine tkY 50 ⟨some 57, .move (.tmp 56), 4, "ref.go:22", #[⟨49, .data⟩, ⟨43, .chain⟩], none⟩ ?v50z170 hHeld ?y50z170 ?r50z170
                      case y50z170 => (intro w hSw; (try dsimp only at hSw); go_simp) <;> with_reducible rfl
                      try simp only [Act.put, List.setIfInBounds_toArray, List.set_cons_zero, List.set_cons_succ]
                      refine tkY 51 ⟨some 58, .fieldAddr 25 (.tmp 3) 5, 0, "ref.go:22", #[⟨50, .guard⟩], some (50, false)⟩ ?v51z171 hHeld ?y51z171 ?r51z171
                      case y51z171 => (intro w hSw; (try dsimp only at hSw); go_simp) <;> with_reducible rfl
                      try simp only [Act.put, List.setIfInBounds_toArray, List.set_cons_zero, List.set_cons_succ]
                      refine tkY 52 ⟨some 59, .load 23 (.tmp 58), 23, "ref.go:22", #[⟨51, .data⟩, ⟨50, .guard⟩], some (50, false)⟩ ?v52z172 hHeld ?y52z172 ?r52z172
                      case y52z172 => (intro w hSw; (try dsimp only at hSw); go_simp) <;> with_reducible rfl
                      try simp only [Act.put, List.setIfInBounds_toArray, List.set_cons_zero, List.set_cons_succ]
                      refine tkY 53 ⟨some 60, .call { callee := .builtin .len, args := #[.tmp 59], argTypes := #[23] }, 3, "ref.go:22", #[⟨52, .data⟩, ⟨50, .guard⟩], some (50, false)⟩ ?v53z173 hHeld ?y53z173 ?r53z173
                      case y53z173 => (intro w hSw; (try dsimp only at hSw); go_simp) <;> with_reducible rfl
                      try simp only [Act.put, List.setIfInBounds_toArray, List.set_cons_zero, List.set_cons_succ]
                      refine tkY 54 ⟨some 61, .fieldAddr 25 (.tmp 3) 0, 0, "ref.go:22", #[⟨50, .guard⟩], some (50, false)⟩ ?v54z174 hHeld ?y54z174 ?r54z174
                      case y54z174 => (intro w hSw; (try dsimp only at hSw); go_simp) <;> with_reducible rfl
                      try simp only [Act.put, List.setIfInBounds_toArray, List.set_cons_zero, List.set_cons_succ]
                      refine tkY 55 ⟨some 62, .load 3 (.tmp 61), 3, "ref.go:22", #[⟨54, .data⟩, ⟨50, .guard⟩], some (50, false)⟩ ?v55z175 hHeld ?y55z175 ?r55z175
                      case y55z175 => (intro w hSw; (try dsimp only at hSw); go_simp) <;> with_reducible rfl
                      try simp only [Act.put, List.setIfInBounds_toArray, List.set_cons_zero, List.set_cons_succ]
                      refine wpAnyH_ready (rs := [56]) (by kernel_rfl) (by simp) ?_
                      refine AllReadyH.cons (o := ⟨some 63, .call { callee := .value (.func 40), args := #[.tmp 62], argTypes := #[3] }, 3, "ref.go:22", #[⟨55, .data⟩, ⟨50, .chain⟩, ⟨50, .guard⟩], some (50, false)⟩) rfl (fun K hK => ?_) AllReadyH.nil
                      go_simp
                      refine (hLC (by omega)).mono ?_
                      rintro x w2 ⟨rfl, hw2⟩
                      subst hw2
                      refine hK.out _ _ ?_ (fun _ => ?_)
                      · exact hHeld
                      clear hK K
                      try simp only [Act.put, List.setIfInBounds_toArray, List.set_cons_zero, List.set_cons_succ]
                      by_cases hc57 : lk.length = N
                      · have d57 : ((lk.length : Int) != (N : Int)) = false := by simp; omega
                        have dn57 : (lk.length != N) = false := by simpa using hc57
                        have g57 : Hid (lk.length = N) := hc57
                        clear hc57
                        refine tkY 57 ⟨some 64, .binOp .neq 3 (.tmp 60) (.tmp 63) 3, 4, "ref.go:22", #[⟨53, .data⟩, ⟨56, .data⟩, ⟨50, .guard⟩], some (50, false)⟩ ?v57z176 hHeld ?y57z176 ?r57z176
                        case y57z176 => (intro w hSw; (try dsimp only at hSw); go_simp) <;> with_reducible rfl
                        try simp only [Act.put, List.setIfInBounds_toArray, List.set_cons_zero, List.set_cons_succ]
                        refine tkY 58 ⟨some 65, .pick (.tmp 57) (.const (.bool true)) (.tmp 64), 4, "ref.go:22", #[⟨50, .data⟩, ⟨57, .data⟩], none⟩ ?v58z177 hHeld ?y58z177 ?r58z177
                        case y58z177 => (intro w hSw; (try dsimp only at hSw); go_simp) <;> with_reducible rfl
                        try simp only [Act.put, List.setIfInBounds_toArray, List.set_cons_zero, List.set_cons_succ]
                        refine wpAnyH_done (by kernel_rfl) ?_ _
                        have HQ : Hid (canB size ⟨e, t, c, tr, li, lk⟩ = sizedB size lk) := by
                          show _ = _
                          cases hs : sizedB size lk with
                          | true => exact (canB_iff size ⟨e, t, c, tr, li, lk⟩).2 ⟨by omega, by omega, by dsimp only; omega, by dsimp only; omega, by dsimp only; omega, by dsimp only; omega, by dsimp only; omega, by dsimp only; omega, by dsimp only; rw [HN.out]; exact g57.out, g41.out, g48.out, hs⟩
                          | false => exact canB_no (by rintro ⟨_, _, _, _, _, _, _, _, _, _, _, q⟩; dsimp only at q; rw [hs] at q; cases q)
                        have p5 := hHeld.2.2.2.2.2
                        have HW : Hid (Below w.heap.size w V.drew) := bA.trans (bD.mono bA.size)
                        have k4 := k3.later bD
                        clear hHeld hcells bD bA k3 hLC
                        obtain ⟨X, hX⟩ : ∃ X, X = V.drew := ⟨_, rfl⟩
                        rw [← hX] at HW k4 p5
                        (try rw [← hX])
                        clear hX
                        have HB0 : Hid (∀ (k : Nat) (l : List UInt8), lk[k]? = some l → (l.length : Int) ≠ size → canB size ⟨e, t, c, tr, li, lk⟩ = false) := fun k l h1 h2 => by rw [HQ.out]; exact sized_no size lk k l h1 h2
                        have HB1 : Hid (sizedB size lk = true → canB size ⟨e, t, c, tr, li, lk⟩ = true) := fun h => by rw [HQ.out]; exact h
                        clear HQ HN
                        go_wp2
                        go_loopw [69] (fun i wr => ∃ k : Nat, k ≤ lk.length ∧ i = .int .i64 k ∧ Hid (sizedB size (lk.take k) = true) ∧ wr = X) (fun i _ => lk.length - (intOf i).toNat)
                        case atStart => exact ⟨0, Nat.zero_le _, rfl, rfl, rfl⟩
                        case round =>
                          obtain ⟨k, hk, rfl, hS, hwr⟩ := hrel
                          subst hwr
                          by_cases hlt : k < lk.length
                          · obtain ⟨b, o, rfl⟩ := k4.addr (by omega)
                            obtain ⟨q, qc, l, hl, c1, h1⟩ := k4.get k hlt
                            have hlt2 : (k : Int) < (lk.length : Int) := by omega
                            by_cases hz : (l.length : Int) = size
                            · have HM : Hid (sizedB size (lk.take (k + 1)) = true) := by
                                show sizedB _ _ = true
                                rw [List.take_add_one, hl.out]
                                show sizedB size (lk.take k ++ [l]) = true
                                rw [sized_snoc, hS.out]
                                simpa using hz
                              have hne : ((l.length : Int) != size) = false := by simpa using hz
                              clear hl h1 HB0 HB1 hS hz
                              go_wp2
                              go_roundw
                              case rel => first | exact ⟨k + 1, by omega, by go_num, HM, trivial⟩ | ((repeat apply Exists.intro); exact ⟨⟨k + 1, by omega, by go_num, HM, trivial⟩, rfl⟩)
                              case measure => simp [intOf]; omega
                            · have HF : Hid (canB size ⟨e, t, c, tr, li, lk⟩ = false) := HB0.out k l hl.out hz
                              have hne : ((l.length : Int) != size) = true := by simpa using hz
                              clear hl h1 HB0 HB1 hS hz
                              go_wp2
                              go_ret
                              rw [HF.out]
                              exact ⟨rfl, HW.out⟩
                          · have HF : Hid (canB size ⟨e, t, c, tr, li, lk⟩ = true) := HB1.out (by
                              have := hS.out
                              rwa [List.take_of_length_le (by omega)] at this)
                            clear HB0 HB1 hS
                            go_wp2
                            go_ret
                            rw [HF.out]
                            exact ⟨rfl, HW.out⟩
                      · have d57 : ((lk.length : Int) != (N : Int)) = true := by simp; omega
                        have dn57 : (lk.length != N) = true := by simpa using hc57
                        have g57 : ¬ lk.length = N := hc57
                        clear hc57
                        refine tkY 57 ⟨some 64, .binOp .neq 3 (.tmp 60) (.tmp 63) 3, 4, "ref.go:22", #[⟨53, .data⟩, ⟨56, .data⟩, ⟨50, .guard⟩], some (50, false)⟩ ?v57z178 hHeld ?y57z178 ?r57z178
                        case y57z178 => (intro w hSw; (try dsimp only at hSw); go_simp) <;> with_reducible rfl
                        try simp only [Act.put, List.setIfInBounds_toArray, List.set_cons_zero, List.set_cons_succ]
                        refine tkY 58 ⟨some 65, .pick (.tmp 57) (.const (.bool true)) (.tmp 64), 4, "ref.go:22", #[⟨50, .data⟩, ⟨57, .data⟩], none⟩ ?v58z179 hHeld ?y58z179 ?r58z179
                        case y58z179 => (intro w hSw; (try dsimp only at hSw); go_simp) <;> with_reducible rfl
                        try simp only [Act.put, List.setIfInBounds_toArray, List.set_cons_zero, List.set_cons_succ]
                        refine wpAnyH_done (by kernel_rfl) ?_ _
                        have HR : Hid (canB size ⟨e, t, c, tr, li, lk⟩ = false) := canB_no (by rintro ⟨q1, q2, q3, q4, q5, q6, q7, q8, q9, q10, q11, _⟩; dsimp only at q3 q4 q5 q6 q7 q8 q9 q10 q11; (try rw [HN.out] at q9); omega)
                        have HW : Hid (Below w.heap.size w V.drew) := bA.trans (bD.mono bA.size)
                        clear hHeld hcells bD bA k3 hLC
                        go_wp2
                        go_ret
                        rw [HR.out]
                        exact ⟨rfl, HW.out⟩
                    · have d48 : ((li.length : Int) != size) = true := by simpa using hc48
                      have g48 : ¬ (li.length : Int) = size := hc48
                      clear hc48
                      refine tkY 48 ⟨some 55, .binOp .neq 3 (.tmp 53) (.tmp 54) 3, 4, "ref.go:22", #[⟨46, .data⟩, ⟨47, .data⟩, ⟨43, .guard⟩], some (43, false)⟩ ?v48z180 hHeld ?y48z180 ?r48z180
                      case y48z180 => (intro w hSw; (try dsimp only at hSw); go_simp) <;> with_reducible rfl
                      try simp only [Act.put, List.setIfInBounds_toArray, List.set_cons_zero, List.set_cons_succ]
                      refine tkY 49 ⟨some 56, .pick (.tmp 50) (.const (.bool true)) (.tmp 55), 4, "ref.go:22", #[⟨43, .data⟩, ⟨48, .data⟩], none⟩ ?v49z181 hHeld ?y49z181 ?r49z181
                      case y49z181 => (intro w hSw; (try dsimp only at hSw); go_simp) <;> with_reducible rfl
                      try simp only [Act.put, List.setIfInBounds_toArray, List.set_cons_zero, List.set_cons_succ]
                      refine tkY 50 ⟨some 57, .move (.tmp 56), 4, "ref.go:22", #[⟨49, .data⟩, ⟨43, .chain⟩], none⟩ ?v50z182 hHeld ?y50z182 ?r50z182
                      case y50z182 => (intro w hSw; (try dsimp only at hSw); go_simp) <;> with_reducible rfl
                      try simp only [Act.put, List.setIfInBounds_toArray, List.set_cons_zero, List.set_cons_succ]
                      refine tkN 51 ⟨some 58, .fieldAddr 25 (.tmp 3) 5, 0, "ref.go:22", #[⟨50, .guard⟩], some (50, false)⟩ hHeld ?_
                      try simp only [Act.put, List.setIfInBounds_toArray, List.set_cons_zero, List.set_cons_succ]
                      refine tkN 52 ⟨some 59, .load 23 (.tmp 58), 23, "ref.go:22", #[⟨51, .data⟩, ⟨50, .guard⟩], some (50, false)⟩ hHeld ?_
                      try simp only [Act.put, List.setIfInBounds_toArray, List.set_cons_zero, List.set_cons_succ]
                      refine tkN 53 ⟨some 60, .call { callee := .builtin .len, args := #[.tmp 59], argTypes := #[23] }, 3, "ref.go:22", #[⟨52, .data⟩, ⟨50, .guard⟩], some (50, false)⟩ hHeld ?_
                      try simp only [Act.put, List.setIfInBounds_toArray, List.set_cons_zero, List.set_cons_succ]
                      refine tkN 54 ⟨some 61, .fieldAddr 25 (.tmp 3) 0, 0, "ref.go:22", #[⟨50, .guard⟩], some (50, false)⟩ hHeld ?_
                      try simp only [Act.put, List.setIfInBounds_toArray, List.set_cons_zero, List.set_cons_succ]
                      refine tkN 55 ⟨some 62, .load 3 (.tmp 61), 3, "ref.go:22", #[⟨54, .data⟩, ⟨50, .guard⟩], some (50, false)⟩ hHeld ?_
                      try simp only [Act.put, List.setIfInBounds_toArray, List.set_cons_zero, List.set_cons_succ]
                      refine tkN 56 ⟨some 63, .call { callee := .value (.func 40), args := #[.tmp 62], argTypes := #[3] }, 3, "ref.go:22", #[⟨55, .data⟩, ⟨50, .chain⟩, ⟨50, .guard⟩], some (50, false)⟩ hHeld ?_
                      try simp only [Act.put, List.setIfInBounds_toArray, List.set_cons_zero, List.set_cons_succ]
                      refine tkN 57 ⟨some 64, .binOp .neq 3 (.tmp 60) (.tmp 63) 3, 4, "ref.go:22", #[⟨53, .data⟩, ⟨56, .data⟩, ⟨50, .guard⟩], some (50, false)⟩ hHeld ?_
                      try simp only [Act.put, List.setIfInBounds_toArray, List.set_cons_zero, List.set_cons_succ]
                      refine tkY 58 ⟨some 65, .pick (.tmp 57) (.const (.bool true)) (.tmp 64), 4, "ref.go:22", #[⟨50, .data⟩, ⟨57, .data⟩], none⟩ ?v58z183 hHeld ?y58z183 ?r58z183
                      case y58z183 => (intro w hSw; (try dsimp only at hSw); go_simp) <;> with_reducible rfl
                      try simp only [Act.put, List.setIfInBounds_toArray, List.set_cons_zero, List.set_cons_succ]
                      refine wpAnyH_done (by kernel_rfl) ?_ _
                      have HR : Hid (canB size ⟨e, t, c, tr, li, lk⟩ = false) := canB_no (by rintro ⟨q1, q2, q3, q4, q5, q6, q7, q8, q9, q10, q11, _⟩; dsimp only at q3 q4 q5 q6 q7 q8 q9 q10 q11; (try rw [HN.out] at q9); omega)
                      have HW : Hid (Below w.heap.size w V.drew) := bA.trans (bD.mono bA.size)
                      clear hHeld hcells bD bA k3 hLC
                      go_wp2
                      go_ret
                      rw [HR.out]
                      exact ⟨rfl, HW.out⟩
                  · have d41 : ((tr.length : Int) != size) = true := by simpa using hc41
                    have g41 : ¬ (tr.length : Int) = size := hc41
                    clear hc41
                    refine tkY 41 ⟨some 48, .binOp .neq 3 (.tmp 46) (.tmp 47) 3, 4, "ref.go:22", #[⟨39, .data⟩, ⟨40, .data⟩, ⟨36, .guard⟩], some (36, false)⟩ ?v41z184 hHeld ?y41z184 ?r41z184
                    case y41z184 => (intro w hSw; (try dsimp only at hSw); go_simp) <;> with_reducible rfl
                    try simp only [Act.put, List.setIfInBounds_toArray, List.set_cons_zero, List.set_cons_succ]
                    refine tkY 42 ⟨some 49, .pick (.tmp 43) (.const (.bool true)) (.tmp 48), 4, "ref.go:22", #[⟨36, .data⟩, ⟨41, .data⟩], none⟩ ?v42z185 hHeld ?y42z185 ?r42z185
                    case y42z185 => (intro w hSw; (try dsimp only at hSw); go_simp) <;> with_reducible rfl
                    try simp only [Act.put, List.setIfInBounds_toArray, List.set_cons_zero, List.set_cons_succ]
                    refine tkY 43 ⟨some 50, .move (.tmp 49), 4, "ref.go:22", #[⟨42, .data⟩, ⟨36, .chain⟩], none⟩ ?v43z186 hHeld ?y43z186 ?r43z186
                    case y43z186 => (intro w hSw; (try dsimp only at hSw); go_simp) <;> with_reducible rfl
                    try simp only [Act.put, List.setIfInBounds_toArray, List.set_cons_zero, List.set_cons_succ]
                    refine tkN 44 ⟨some 51, .fieldAddr 25 (.tmp 3) 4, 0, "ref.go:22", #[⟨43, .guard⟩], some (43, false)⟩ hHeld ?_
                    try simp only [Act.put, List.setIfInBounds_toArray, List.set_cons_zero, List.set_cons_succ]
                    refine tkN 45 ⟨some 52, .load 22 (.tmp 51), 22, "ref.go:22", #[⟨44, .data⟩, ⟨43, .guard⟩], some (43, false)⟩ hHeld ?_
                    try simp only [Act.put, List.setIfInBounds_toArray, List.set_cons_zero, List.set_cons_succ]
                    refine tkN 46 ⟨some 53, .call { callee := .builtin .len, args := #[.tmp 52], argTypes := #[22] }, 3, "ref.go:22", #[⟨45, .data⟩, ⟨43, .guard⟩], some (43, false)⟩ hHeld ?_
                    try simp only [Act.put, List.setIfInBounds_toArray, List.set_cons_zero, List.set_cons_succ]
                    refine tkN 47 ⟨some 54, .move (.tmp 0), 3, "ref.go:22", #[⟨43, .guard⟩], some (43, false)⟩ hHeld ?_
                    try simp only [Act.put, List.setIfInBounds_toArray, List.set_cons_zero, List.set_cons_succ]
                    refine tkN 48 ⟨some 55, .binOp .neq 3 (.tmp 53) (.tmp 54) 3, 4, "ref.go:22", #[⟨46, .data⟩, ⟨47, .data⟩, ⟨43, .guard⟩], some (43, false)⟩ hHeld ?_
                    try simp only [Act.put, List.setIfInBounds_toArray, List.set_cons_zero, List.set_cons_succ]
                    refine tkY 49 ⟨some 56, .pick (.tmp 50) (.const (.bool true)) (.tmp 55), 4, "ref.go:22", #[⟨43, .data⟩, ⟨48, .data⟩], none⟩ ?v49z187 hHeld ?y49z187 ?r49z187
                    case y49z187 => (intro w hSw; (try dsimp only at hSw); go_simp) <;> with_reducible rfl
                    try simp only [Act.put, List.setIfInBounds_toArray, List.set_cons_zero, List.set_cons_succ]
                    refine tkY 50 ⟨some 57, .move (.tmp 56), 4, "ref.go:22", #[⟨49, .data⟩, ⟨43, .chain⟩], none⟩ ?v50z188 hHeld ?y50z188 ?r50z188
                    case y50z188 => (intro w hSw; (try dsimp only at hSw); go_simp) <;> with_reducible rfl
                    try simp only [Act.put, List.setIfInBounds_toArray, List.set_cons_zero, List.set_cons_succ]
                    refine tkN 51 ⟨some 58, .fieldAddr 25 (.tmp 3) 5, 0, "ref.go:22", #[⟨50, .guard⟩], some (50, false)⟩ hHeld ?_
                    try simp only [Act.put, List.setIfInBounds_toArray, List.set_cons_zero, List.set_cons_succ]
                    refine tkN 52 ⟨some 59, .load 23 (.tmp 58), 23, "ref.go:22", #[⟨51, .data⟩, ⟨50, .guard⟩], some (50, false)⟩ hHeld ?_
                    try simp only [Act.put, List.setIfInBounds_toArray, List.set_cons_zero, List.set_cons_succ]
                    refine tkN 53 ⟨some 60, .call { callee := .builtin .len, args := #[.tmp 59], argTypes := #[23] }, 3, "ref.go:22", #[⟨52, .data⟩, ⟨50, .guard⟩], some (50, false)⟩ hHeld ?_
                    try simp only [Act.put, List.setIfInBounds_toArray, List.set_cons_zero, List.set_cons_succ]
                    refine tkN 54 ⟨some 61, .fieldAddr 25 (.tmp 3) 0, 0, "ref.go:22", #[⟨50, .guard⟩], some (50, false)⟩ hHeld ?_
                    try simp only [Act.put, List.setIfInBounds_toArray, List.set_cons_zero, List.set_cons_succ]
                    refine tkN 55 ⟨some 62, .load 3 (.tmp 61), 3, "ref.go:22", #[⟨54, .data⟩, ⟨50, .guard⟩], some (50, false)⟩ hHeld ?_
                    try simp only [Act.put, List.setIfInBounds_toArray, List.set_cons_zero, List.set_cons_succ]
                    refine tkN 56 ⟨some 63, .call { callee := .value (.func 40), args := #[.tmp 62], argTypes := #[3] }, 3, "ref.go:22", #[⟨55, .data⟩, ⟨50, .chain⟩, ⟨50, .guard⟩], some (50, false)⟩ hHeld ?_
                    try simp only [Act.put, List.setIfInBounds_toArray, List.set_cons_zero, List.set_cons_succ]
                    refine tkN 57 ⟨some 64, .binOp .neq 3 (.tmp 60) (.tmp 63) 3, 4, "ref.go:22", #[⟨53, .data⟩, ⟨56, .data⟩, ⟨50, .guard⟩], some (50, false)⟩ hHeld ?_
                    try simp only [Act.put, List.setIfInBounds_toArray, List.set_cons_zero, List.set_cons_succ]
                    refine tkY 58 ⟨some 65, .pick (.tmp 57) (.const (.bool true)) (.tmp 64), 4, "ref.go:22", #[⟨50, .data⟩, ⟨57, .data⟩], none⟩ ?v58z189 hHeld ?y58z189 ?r58z189
                    case y58z189 => (intro w hSw; (try dsimp only at hSw); go_simp) <;> with_reducible rfl
                    try simp only [Act.put, List.setIfInBounds_toArray, List.set_cons_zero, List.set_cons_succ]
                    refine wpAnyH_done (by kernel_rfl) ?_ _
                    have HR : Hid (canB size ⟨e, t, c, tr, li, lk⟩ = false) := canB_no (by rintro ⟨q1, q2, q3, q4, q5, q6, q7, q8, q9, q10, q11, _⟩; dsimp only at q3 q4 q5 q6 q7 q8 q9 q10 q11; (try rw [HN.out] at q9); omega)
                    have HW : Hid (Below w.heap.size w V.drew) := bA.trans (bD.mono bA.size)
                    clear hHeld hcells bD bA k3 hLC
                    go_wp2
                    go_ret
                    rw [HR.out]
                    exact ⟨rfl, HW.out⟩

end Go.Proofs.YtpndpmkoegmbkaaDoor
