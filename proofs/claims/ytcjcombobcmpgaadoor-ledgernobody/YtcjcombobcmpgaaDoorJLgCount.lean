/- What this text proves: the walk of ledger's count over this program. (By program: mklgcount.py.) -/
import Derived.Test.YtcjcombobcmpgaaDoorJG1
import Derived.Test.YtcjcombobcmpgaaDoorJA2
import Derived.Test.YtcjcombobcmpgaaDoorJG2
namespace Go.Proofs.YtcjcombobcmpgaaDoor
open Go.RowKit

theorem LG.put {w : World} {g gl : Nat} {s h mi mk ch ar ca pg n c t : Int} (k : LG w g gl s h mi mk ch ar ca pg n c t) (n' c' t' : Int) : LG (((w.setCell ⟨g, 9, none⟩ (.int .i64 n')).setCell ⟨g, 10, none⟩ (.int .i64 c')).setCell ⟨g, 11, none⟩ (.int .i64 t')) g gl s h mi mk ch ar ca pg n' c' t' := by
  unfold LG at *
  rw [heap_setCell_same _ g 11 _ _ _ (heap_setCell_same _ g 10 _ _ _ (heap_setCell_same w g 9 _ _ _ k))]
  rfl

set_option maxRecDepth 100000 in
set_option maxHeartbeats 4000000 in
theorem lcount_any {g gl N : Nat} {s h mi mk ch ar ca pg n c t0 t : Int} {p : Option Addr} {cp : Nat} {w : World} (k : LG w g gl s h mi mk ch ar ca pg n c t0) (hn : 0 ≤ n ∧ n ≤ 1000000) (hc : 0 ≤ c ∧ c ≤ 1000000) (hN : N ≤ 1000000) :
    Calls Tryd.prog 15 #[.pointer (some ⟨g, 0, none⟩), .agg #[.int .i64 t, .slice p N cp]] w fun x w' => x = .returned (.tuple #[]) ∧ LG w' g gl s h mi mk ch ar ca pg (n + 1) (c + N) t ∧ Only g w w' := by
  have b0 := (Below.refl w.heap.size w).alloc (Nat.le_refl _) (.cells #[.int .i64 t, .slice p N cp] 24)
  have g0 := heap_alloc_new w (.cells #[.int .i64 t, .slice p N cp] 24)
  obtain ⟨V, hV⟩ : ∃ V, w.alloc (.cells #[.int .i64 t, .slice p N cp] 24) = V := ⟨_, rfl⟩
  rw [hV] at b0 g0
  have bD := b0.drew
  have kD : LG V.drew g gl s h mi mk ch ar ca pg n c t0 := k.same (bD.block _ k.lt)
  have hlt := k.lt
  obtain ⟨_, _, a9, a10, a11⟩ := kD.cells
  have f9 := kD.free 9
  have f10 := kD.free 10
  have f11 := kD.free 11
  have gD : V.drew.heap[w.heap.size]? = some (.cells #[.int .i64 t, .slice p N cp] 24 (0, 0)) := g0
  have e0 : V.drew.cell? ⟨w.heap.size, 0, none⟩ = some (.int .i64 t) := by rw [cell_of_row _ _ _ _ _ _ gD]; rfl
  have e1 : V.drew.cell? ⟨w.heap.size, 1, none⟩ = some (.slice p N cp) := by rw [cell_of_row _ _ _ _ _ _ gD]; rfl
  have hw1 : IntKind.i64.wrap (n + 1) = n + 1 := wrapZ _ (by omega) (by omega)
  have hw2 : IntKind.i64.wrap (c + (N : Int)) = c + (N : Int) := wrapZ _ (by omega) (by omega)
  have kF := kD.put (n + 1) (c + N) t
  have oF : Only g w (((V.drew.setCell ⟨g, 9, none⟩ (.int .i64 (n + 1))).setCell ⟨g, 10, none⟩ (.int .i64 (c + N))).setCell ⟨g, 11, none⟩ (.int .i64 t)) := (Only.of_below bD (by omega)).trans ((((Only.refl g V.drew).setCell 9 _).setCell 10 _).setCell 11 _)
  have hHeld : _ ∧ _ ∧ _ ∧ _ := ⟨a9, a10, e0, e1⟩
  clear g0 gD kD k
  go_enter Tryd.func15, Tryd.ntmps15
  go_wp2
  refine wp_region_split (by kernel_rfl) (fun W => W.cell? ⟨g, 9, none⟩ = some (.int .i64 n) ∧ W.cell? ⟨g, 10, none⟩ = some (.int .i64 c) ∧ W.cell? ⟨w.heap.size, 0, none⟩ = some (.int .i64 t) ∧ W.cell? ⟨w.heap.size, 1, none⟩ = some (.slice p N cp)) 19 3 #[{ dst := some 4, op := Go.Op.move (Go.Operand.tmp 0), type := 25, pos := "ledger.go:101", after := #[], guard := none },
    { dst := some 5, op := Go.Op.move (Go.Operand.tmp 0), type := 25, pos := "ledger.go:101", after := #[], guard := none },
    { dst := some 6, op := Go.Op.nilCheck (Go.Operand.tmp 5), type := 0, pos := "ledger.go:101", after := #[{ on := 1, ground := Go.Ground.data }], guard := none },
    { dst := some 7, op := Go.Op.fieldAddr 32 (Go.Operand.tmp 6) 2, type := 0, pos := "ledger.go:101", after := #[{ on := 2, ground := Go.Ground.data }], guard := none },
    { dst := some 8, op := Go.Op.fieldAddr 30 (Go.Operand.tmp 7) 0, type := 0, pos := "ledger.go:101", after := #[{ on := 3, ground := Go.Ground.data }], guard := none },
    { dst := some 9, op := Go.Op.load 3 (Go.Operand.tmp 8), type := 3, pos := "ledger.go:101", after := #[{ on := 4, ground := Go.Ground.data }], guard := none },
    { dst := some 10, op := Go.Op.binOp Go.BinOp.add 3 (Go.Operand.tmp 9) (Go.Operand.const (Go.Value.int Go.IntKind.i64 1)) 3, type := 3, pos := "ledger.go:101", after := #[{ on := 5, ground := Go.Ground.data }], guard := none },
    { dst := some 11, op := Go.Op.move (Go.Operand.tmp 0), type := 25, pos := "ledger.go:101", after := #[], guard := none },
    { dst := some 12, op := Go.Op.nilCheck (Go.Operand.tmp 11), type := 0, pos := "ledger.go:101", after := #[{ on := 7, ground := Go.Ground.data }], guard := none },
    { dst := some 13, op := Go.Op.fieldAddr 32 (Go.Operand.tmp 12) 2, type := 0, pos := "ledger.go:101", after := #[{ on := 8, ground := Go.Ground.data }], guard := none },
    { dst := some 14, op := Go.Op.fieldAddr 30 (Go.Operand.tmp 13) 1, type := 0, pos := "ledger.go:101", after := #[{ on := 9, ground := Go.Ground.data }], guard := none },
    { dst := some 15, op := Go.Op.load 3 (Go.Operand.tmp 14), type := 3, pos := "ledger.go:101", after := #[{ on := 10, ground := Go.Ground.data }], guard := none },
    { dst := some 16, op := Go.Op.fieldAddr 24 (Go.Operand.tmp 3) 1, type := 0, pos := "ledger.go:101", after := #[], guard := none },
    { dst := some 17, op := Go.Op.load 22 (Go.Operand.tmp 16), type := 22, pos := "ledger.go:101", after := #[{ on := 12, ground := Go.Ground.data }], guard := none },
    { dst := some 18, op := Go.Op.call { callee := Go.Callee.builtin Go.Builtin.len, args := #[Go.Operand.tmp 17], argTypes := #[22] }, type := 3, pos := "ledger.go:101", after := #[{ on := 13, ground := Go.Ground.data }], guard := none },
    { dst := some 19, op := Go.Op.binOp Go.BinOp.add 3 (Go.Operand.tmp 15) (Go.Operand.tmp 18) 3, type := 3, pos := "ledger.go:101", after := #[{ on := 11, ground := Go.Ground.data }, { on := 14, ground := Go.Ground.data }], guard := none },
    { dst := some 20, op := Go.Op.fieldAddr 24 (Go.Operand.tmp 3) 0, type := 0, pos := "ledger.go:101", after := #[], guard := none },
    { dst := some 21, op := Go.Op.load 3 (Go.Operand.tmp 20), type := 3, pos := "ledger.go:101", after := #[{ on := 16, ground := Go.Ground.data }], guard := none },
    { dst := some 22, op := Go.Op.build 30 #[(0, Go.Operand.tmp 10), (1, Go.Operand.tmp 19), (2, Go.Operand.tmp 21)], type := 30, pos := "ledger.go:101", after := #[{ on := 6, ground := Go.Ground.data }, { on := 15, ground := Go.Ground.data }, { on := 17, ground := Go.Ground.data }], guard := none }] (by kernel_rfl) (by kernel_rfl) ?_
  generalize hWD : V.drew = WD at *
  refine tkY 0 ⟨some 4, .move (.tmp 0), 25, "ledger.go:101", #[], none⟩ ?v0z1 hHeld ?y0z1 ?r0z1
  case y0z1 => (intro w hSw; (try dsimp only at hSw); go_simp) <;> with_reducible rfl
  try simp only [Act.put, List.setIfInBounds_toArray, List.set_cons_zero, List.set_cons_succ]
  refine tkY 1 ⟨some 5, .move (.tmp 0), 25, "ledger.go:101", #[], none⟩ ?v1z2 hHeld ?y1z2 ?r1z2
  case y1z2 => (intro w hSw; (try dsimp only at hSw); go_simp) <;> with_reducible rfl
  try simp only [Act.put, List.setIfInBounds_toArray, List.set_cons_zero, List.set_cons_succ]
  refine tkY 2 ⟨some 6, .nilCheck (.tmp 5), 0, "ledger.go:101", #[⟨1, .data⟩], none⟩ ?v2z3 hHeld ?y2z3 ?r2z3
  case y2z3 => (intro w hSw; (try dsimp only at hSw); go_simp) <;> with_reducible rfl
  try simp only [Act.put, List.setIfInBounds_toArray, List.set_cons_zero, List.set_cons_succ]
  refine tkY 3 ⟨some 7, .fieldAddr 32 (.tmp 6) 2, 0, "ledger.go:101", #[⟨2, .data⟩], none⟩ ?v3z4 hHeld ?y3z4 ?r3z4
  case y3z4 => (intro w hSw; (try dsimp only at hSw); go_simp) <;> with_reducible rfl
  try simp only [Act.put, List.setIfInBounds_toArray, List.set_cons_zero, List.set_cons_succ]
  refine tkY 4 ⟨some 8, .fieldAddr 30 (.tmp 7) 0, 0, "ledger.go:101", #[⟨3, .data⟩], none⟩ ?v4z5 hHeld ?y4z5 ?r4z5
  case y4z5 => (intro w hSw; (try dsimp only at hSw); go_simp) <;> with_reducible rfl
  try simp only [Act.put, List.setIfInBounds_toArray, List.set_cons_zero, List.set_cons_succ]
  refine tkY 5 ⟨some 9, .load 3 (.tmp 8), 3, "ledger.go:101", #[⟨4, .data⟩], none⟩ ?v5z6 hHeld ?y5z6 ?r5z6
  case y5z6 => (intro w hSw; (try dsimp only at hSw); go_simp) <;> with_reducible rfl
  try simp only [Act.put, List.setIfInBounds_toArray, List.set_cons_zero, List.set_cons_succ]
  refine tkY 6 ⟨some 10, .binOp .add 3 (.tmp 9) (.const (.int .i64 1)) 3, 3, "ledger.go:101", #[⟨5, .data⟩], none⟩ ?v6z7 hHeld ?y6z7 ?r6z7
  case y6z7 => (intro w hSw; (try dsimp only at hSw); go_simp) <;> with_reducible rfl
  try simp only [Act.put, List.setIfInBounds_toArray, List.set_cons_zero, List.set_cons_succ]
  refine tkY 7 ⟨some 11, .move (.tmp 0), 25, "ledger.go:101", #[], none⟩ ?v7z8 hHeld ?y7z8 ?r7z8
  case y7z8 => (intro w hSw; (try dsimp only at hSw); go_simp) <;> with_reducible rfl
  try simp only [Act.put, List.setIfInBounds_toArray, List.set_cons_zero, List.set_cons_succ]
  refine tkY 8 ⟨some 12, .nilCheck (.tmp 11), 0, "ledger.go:101", #[⟨7, .data⟩], none⟩ ?v8z9 hHeld ?y8z9 ?r8z9
  case y8z9 => (intro w hSw; (try dsimp only at hSw); go_simp) <;> with_reducible rfl
  try simp only [Act.put, List.setIfInBounds_toArray, List.set_cons_zero, List.set_cons_succ]
  refine tkY 9 ⟨some 13, .fieldAddr 32 (.tmp 12) 2, 0, "ledger.go:101", #[⟨8, .data⟩], none⟩ ?v9z10 hHeld ?y9z10 ?r9z10
  case y9z10 => (intro w hSw; (try dsimp only at hSw); go_simp) <;> with_reducible rfl
  try simp only [Act.put, List.setIfInBounds_toArray, List.set_cons_zero, List.set_cons_succ]
  refine tkY 10 ⟨some 14, .fieldAddr 30 (.tmp 13) 1, 0, "ledger.go:101", #[⟨9, .data⟩], none⟩ ?v10z11 hHeld ?y10z11 ?r10z11
  case y10z11 => (intro w hSw; (try dsimp only at hSw); go_simp) <;> with_reducible rfl
  try simp only [Act.put, List.setIfInBounds_toArray, List.set_cons_zero, List.set_cons_succ]
  refine tkY 11 ⟨some 15, .load 3 (.tmp 14), 3, "ledger.go:101", #[⟨10, .data⟩], none⟩ ?v11z12 hHeld ?y11z12 ?r11z12
  case y11z12 => (intro w hSw; (try dsimp only at hSw); go_simp) <;> with_reducible rfl
  try simp only [Act.put, List.setIfInBounds_toArray, List.set_cons_zero, List.set_cons_succ]
  refine tkY 12 ⟨some 16, .fieldAddr 24 (.tmp 3) 1, 0, "ledger.go:101", #[], none⟩ ?v12z13 hHeld ?y12z13 ?r12z13
  case y12z13 => (intro w hSw; (try dsimp only at hSw); go_simp) <;> with_reducible rfl
  try simp only [Act.put, List.setIfInBounds_toArray, List.set_cons_zero, List.set_cons_succ]
  refine tkY 13 ⟨some 17, .load 22 (.tmp 16), 22, "ledger.go:101", #[⟨12, .data⟩], none⟩ ?v13z14 hHeld ?y13z14 ?r13z14
  case y13z14 => (intro w hSw; (try dsimp only at hSw); go_simp) <;> with_reducible rfl
  try simp only [Act.put, List.setIfInBounds_toArray, List.set_cons_zero, List.set_cons_succ]
  refine tkY 14 ⟨some 18, .call { callee := .builtin .len, args := #[.tmp 17], argTypes := #[22] }, 3, "ledger.go:101", #[⟨13, .data⟩], none⟩ ?v14z15 hHeld ?y14z15 ?r14z15
  case y14z15 => (intro w hSw; (try dsimp only at hSw); go_simp) <;> with_reducible rfl
  try simp only [Act.put, List.setIfInBounds_toArray, List.set_cons_zero, List.set_cons_succ]
  refine tkY 15 ⟨some 19, .binOp .add 3 (.tmp 15) (.tmp 18) 3, 3, "ledger.go:101", #[⟨11, .data⟩, ⟨14, .data⟩], none⟩ ?v15z16 hHeld ?y15z16 ?r15z16
  case y15z16 => (intro w hSw; (try dsimp only at hSw); go_simp) <;> with_reducible rfl
  try simp only [Act.put, List.setIfInBounds_toArray, List.set_cons_zero, List.set_cons_succ]
  refine tkY 16 ⟨some 20, .fieldAddr 24 (.tmp 3) 0, 0, "ledger.go:101", #[], none⟩ ?v16z17 hHeld ?y16z17 ?r16z17
  case y16z17 => (intro w hSw; (try dsimp only at hSw); go_simp) <;> with_reducible rfl
  try simp only [Act.put, List.setIfInBounds_toArray, List.set_cons_zero, List.set_cons_succ]
  refine tkY 17 ⟨some 21, .load 3 (.tmp 20), 3, "ledger.go:101", #[⟨16, .data⟩], none⟩ ?v17z18 hHeld ?y17z18 ?r17z18
  case y17z18 => (intro w hSw; (try dsimp only at hSw); go_simp) <;> with_reducible rfl
  try simp only [Act.put, List.setIfInBounds_toArray, List.set_cons_zero, List.set_cons_succ]
  refine tkY 18 ⟨some 22, .build 30 #[(0, .tmp 10), (1, .tmp 19), (2, .tmp 21)], 30, "ledger.go:101", #[⟨6, .data⟩, ⟨15, .data⟩, ⟨17, .data⟩], none⟩ ?v18z19 hHeld ?y18z19 ?r18z19
  case y18z19 => (intro w hSw; (try dsimp only at hSw); go_simp) <;> with_reducible rfl
  try simp only [Act.put, List.setIfInBounds_toArray, List.set_cons_zero, List.set_cons_succ]
  refine wpAnyH_done (by kernel_rfl) ?_ _
  refine headPost_rest [{ dst := some 23, op := Go.Op.nilCheck (Go.Operand.tmp 4), type := 0, pos := "ledger.go:101", after := #[{ on := 0, ground := Go.Ground.data }, { on := 0, ground := Go.Ground.phase }, { on := 1, ground := Go.Ground.phase }, { on := 2, ground := Go.Ground.phase }, { on := 3, ground := Go.Ground.phase }, { on := 4, ground := Go.Ground.phase }, { on := 5, ground := Go.Ground.phase }, { on := 6, ground := Go.Ground.phase }, { on := 7, ground := Go.Ground.phase }, { on := 8, ground := Go.Ground.phase }, { on := 9, ground := Go.Ground.phase }, { on := 10, ground := Go.Ground.phase }, { on := 11, ground := Go.Ground.phase }, { on := 12, ground := Go.Ground.phase }, { on := 13, ground := Go.Ground.phase }, { on := 14, ground := Go.Ground.phase }, { on := 15, ground := Go.Ground.phase }, { on := 16, ground := Go.Ground.phase }, { on := 17, ground := Go.Ground.phase }, { on := 18, ground := Go.Ground.phase }], guard := none },
    { dst := some 24, op := Go.Op.fieldAddr 32 (Go.Operand.tmp 23) 2, type := 0, pos := "ledger.go:101", after := #[{ on := 19, ground := Go.Ground.data }, { on := 0, ground := Go.Ground.phase }, { on := 1, ground := Go.Ground.phase }, { on := 2, ground := Go.Ground.phase }, { on := 3, ground := Go.Ground.phase }, { on := 4, ground := Go.Ground.phase }, { on := 5, ground := Go.Ground.phase }, { on := 6, ground := Go.Ground.phase }, { on := 7, ground := Go.Ground.phase }, { on := 8, ground := Go.Ground.phase }, { on := 9, ground := Go.Ground.phase }, { on := 10, ground := Go.Ground.phase }, { on := 11, ground := Go.Ground.phase }, { on := 12, ground := Go.Ground.phase }, { on := 13, ground := Go.Ground.phase }, { on := 14, ground := Go.Ground.phase }, { on := 15, ground := Go.Ground.phase }, { on := 16, ground := Go.Ground.phase }, { on := 17, ground := Go.Ground.phase }, { on := 18, ground := Go.Ground.phase }], guard := none },
    { dst := none, op := Go.Op.store 30 (Go.Operand.tmp 24) (Go.Operand.tmp 22), type := 0, pos := "ledger.go:101", after := #[{ on := 20, ground := Go.Ground.data }, { on := 18, ground := Go.Ground.data }, { on := 0, ground := Go.Ground.phase }, { on := 1, ground := Go.Ground.phase }, { on := 2, ground := Go.Ground.phase }, { on := 3, ground := Go.Ground.phase }, { on := 4, ground := Go.Ground.phase }, { on := 5, ground := Go.Ground.phase }, { on := 6, ground := Go.Ground.phase }, { on := 7, ground := Go.Ground.phase }, { on := 8, ground := Go.Ground.phase }, { on := 9, ground := Go.Ground.phase }, { on := 10, ground := Go.Ground.phase }, { on := 11, ground := Go.Ground.phase }, { on := 12, ground := Go.Ground.phase }, { on := 13, ground := Go.Ground.phase }, { on := 14, ground := Go.Ground.phase }, { on := 15, ground := Go.Ground.phase }, { on := 16, ground := Go.Ground.phase }, { on := 17, ground := Go.Ground.phase }, { on := 18, ground := Go.Ground.phase }], guard := none }] (by kernel_rfl) rfl (by kernel_rfl) ?_
  go_wp2
  go_end0
  exact ⟨rfl, kF, oF⟩

end Go.Proofs.YtcjcombobcmpgaaDoor
