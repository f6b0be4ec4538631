/- What this text proves: the walk of ledger's count over this program. (By program: mklgcount.py.) What this text proves: what a log keeps while records are put in (the device lives), and one Append of any short record; what room a record wants (plain). What this text proves: a ledger with its log and its device in memory, and what stays of it; plain facts. -/
import Derived.Test.YtcgpgnajmfemhaaGreatDoorJG1
import Derived.Test.YtcgpgnajmfemhaaGreatDoorJQ1
import Derived.Test.YtcgpgnajmfemhaaGreatDoorJG2
import Derived.Test.YtcgpgnajmfemhaaGreatDoorJQ2
import Derived.Test.YtcgpgnajmfemhaaGreatDoorJL1
namespace Go.Proofs.YtcgpgnajmfemhaaGreatDoor
open Go.RowKit

theorem LG.put {w : World} {g gl : Nat} {s h mi mk ch ar ca pg n c t : Int} (k : LG w g gl s h mi mk ch ar ca pg n c t) (n' c' t' : Int) : LG (((w.setCell ⟨g, 9, none⟩ (.int .i64 n')).setCell ⟨g, 10, none⟩ (.int .i64 c')).setCell ⟨g, 11, none⟩ (.int .i64 t')) g gl s h mi mk ch ar ca pg n' c' t' := by
  unfold LG at *
  rw [heap_setCell_same _ g 11 _ _ _ (heap_setCell_same _ g 10 _ _ _ (heap_setCell_same w g 9 _ _ _ k))]
  rfl

set_option maxRecDepth 100000 in
set_option maxHeartbeats 4000000 in
theorem lcount_any {g gl N : Nat} {s h mi mk ch ar ca pg n c t0 t : Int} {p : Option Addr} {cp : Nat} {w : World} (k : LG w g gl s h mi mk ch ar ca pg n c t0) (hn : 0 ≤ n ∧ n ≤ 1000000) (hc : 0 ≤ c ∧ c ≤ 1000000) (hN : N ≤ 1000000) :
    Calls Tryz.prog 49 #[.pointer (some ⟨g, 0, none⟩), .agg #[.int .i64 t, .slice p N cp]] w fun x w' => x = .returned (.tuple #[]) ∧ LG w' g gl s h mi mk ch ar ca pg (n + 1) (c + N) t ∧ Only g w w' := by
  have b0 := (Below.refl w.heap.size w).alloc (Nat.le_refl _) (.cells #[.int .i64 t, .slice p N cp] 66)
  have g0 := heap_alloc_new w (.cells #[.int .i64 t, .slice p N cp] 66)
  obtain ⟨V, hV⟩ : ∃ V, w.alloc (.cells #[.int .i64 t, .slice p N cp] 66) = V := ⟨_, rfl⟩
  rw [hV] at b0 g0
  have bD := b0.drew
  have kD : LG V.drew g gl s h mi mk ch ar ca pg n c t0 := k.same (bD.block _ k.lt)
  have hlt := k.lt
  obtain ⟨_, _, a9, a10, a11⟩ := kD.cells
  have f9 := kD.free 9
  have f10 := kD.free 10
  have f11 := kD.free 11
  have gD : V.drew.heap[w.heap.size]? = some (.cells #[.int .i64 t, .slice p N cp] 66 (0, 0)) := g0
  have e0 : V.drew.cell? ⟨w.heap.size, 0, none⟩ = some (.int .i64 t) := by rw [cell_of_row _ _ _ _ _ _ gD]; rfl
  have e1 : V.drew.cell? ⟨w.heap.size, 1, none⟩ = some (.slice p N cp) := by rw [cell_of_row _ _ _ _ _ _ gD]; rfl
  have hw1 : IntKind.i64.wrap (n + 1) = n + 1 := wrapZ _ (by omega) (by omega)
  have hw2 : IntKind.i64.wrap (c + (N : Int)) = c + (N : Int) := wrapZ _ (by omega) (by omega)
  have kF := kD.put (n + 1) (c + N) t
  have oF : Only g w (((V.drew.setCell ⟨g, 9, none⟩ (.int .i64 (n + 1))).setCell ⟨g, 10, none⟩ (.int .i64 (c + N))).setCell ⟨g, 11, none⟩ (.int .i64 t)) := (Only.of_below bD (by omega)).trans ((((Only.refl g V.drew).setCell 9 _).setCell 10 _).setCell 11 _)
  have hHeld : _ ∧ _ ∧ _ ∧ _ := ⟨a9, a10, e0, e1⟩
  clear g0 gD kD k
  go_enter Tryz.func49, Tryz.ntmps49
  go_wp2
  refine wp_region_split (by kernel_rfl) (fun W => W.cell? ⟨g, 9, none⟩ = some (.int .i64 n) ∧ W.cell? ⟨g, 10, none⟩ = some (.int .i64 c) ∧ W.cell? ⟨w.heap.size, 0, none⟩ = some (.int .i64 t) ∧ W.cell? ⟨w.heap.size, 1, none⟩ = some (.slice p N cp)) 19 3 #[{ dst := some 4, op := Go.Op.move (Go.Operand.tmp 0), type := 26, pos := "ledger.go:101", after := #[], guard := none },
    { dst := some 5, op := Go.Op.move (Go.Operand.tmp 0), type := 26, pos := "ledger.go:101", after := #[], guard := none },
    { dst := some 6, op := Go.Op.nilCheck (Go.Operand.tmp 5), type := 0, pos := "ledger.go:101", after := #[{ on := 1, ground := Go.Ground.data }], guard := none },
    { dst := some 7, op := Go.Op.fieldAddr 97 (Go.Operand.tmp 6) 2, type := 0, pos := "ledger.go:101", after := #[{ on := 2, ground := Go.Ground.data }], guard := none },
    { dst := some 8, op := Go.Op.fieldAddr 95 (Go.Operand.tmp 7) 0, type := 0, pos := "ledger.go:101", after := #[{ on := 3, ground := Go.Ground.data }], guard := none },
    { dst := some 9, op := Go.Op.load 3 (Go.Operand.tmp 8), type := 3, pos := "ledger.go:101", after := #[{ on := 4, ground := Go.Ground.data }], guard := none },
    { dst := some 10, op := Go.Op.binOp Go.BinOp.add 3 (Go.Operand.tmp 9) (Go.Operand.const (Go.Value.int Go.IntKind.i64 1)) 3, type := 3, pos := "ledger.go:101", after := #[{ on := 5, ground := Go.Ground.data }], guard := none },
    { dst := some 11, op := Go.Op.move (Go.Operand.tmp 0), type := 26, pos := "ledger.go:101", after := #[], guard := none },
    { dst := some 12, op := Go.Op.nilCheck (Go.Operand.tmp 11), type := 0, pos := "ledger.go:101", after := #[{ on := 7, ground := Go.Ground.data }], guard := none },
    { dst := some 13, op := Go.Op.fieldAddr 97 (Go.Operand.tmp 12) 2, type := 0, pos := "ledger.go:101", after := #[{ on := 8, ground := Go.Ground.data }], guard := none },
    { dst := some 14, op := Go.Op.fieldAddr 95 (Go.Operand.tmp 13) 1, type := 0, pos := "ledger.go:101", after := #[{ on := 9, ground := Go.Ground.data }], guard := none },
    { dst := some 15, op := Go.Op.load 3 (Go.Operand.tmp 14), type := 3, pos := "ledger.go:101", after := #[{ on := 10, ground := Go.Ground.data }], guard := none },
    { dst := some 16, op := Go.Op.fieldAddr 66 (Go.Operand.tmp 3) 1, type := 0, pos := "ledger.go:101", after := #[], guard := none },
    { dst := some 17, op := Go.Op.load 22 (Go.Operand.tmp 16), type := 22, pos := "ledger.go:101", after := #[{ on := 12, ground := Go.Ground.data }], guard := none },
    { dst := some 18, op := Go.Op.call { callee := Go.Callee.builtin Go.Builtin.len, args := #[Go.Operand.tmp 17], argTypes := #[22] }, type := 3, pos := "ledger.go:101", after := #[{ on := 13, ground := Go.Ground.data }], guard := none },
    { dst := some 19, op := Go.Op.binOp Go.BinOp.add 3 (Go.Operand.tmp 15) (Go.Operand.tmp 18) 3, type := 3, pos := "ledger.go:101", after := #[{ on := 11, ground := Go.Ground.data }, { on := 14, ground := Go.Ground.data }], guard := none },
    { dst := some 20, op := Go.Op.fieldAddr 66 (Go.Operand.tmp 3) 0, type := 0, pos := "ledger.go:101", after := #[], guard := none },
    { dst := some 21, op := Go.Op.load 3 (Go.Operand.tmp 20), type := 3, pos := "ledger.go:101", after := #[{ on := 16, ground := Go.Ground.data }], guard := none },
    { dst := some 22, op := Go.Op.build 95 #[(0, Go.Operand.tmp 10), (1, Go.Operand.tmp 19), (2, Go.Operand.tmp 21)], type := 95, pos := "ledger.go:101", after := #[{ on := 6, ground := Go.Ground.data }, { on := 15, ground := Go.Ground.data }, { on := 17, ground := Go.Ground.data }], guard := none }] (by kernel_rfl) (by kernel_rfl) ?_
  generalize hWD : V.drew = WD at *
  refine tkY 0 ⟨some 4, .move (.tmp 0), 26, "ledger.go:101", #[], none⟩ ?v0z1 hHeld ?y0z1 ?r0z1
  case y0z1 => (intro w hSw; (try dsimp only at hSw); go_simp) <;> with_reducible rfl
  try simp only [Act.put, List.setIfInBounds_toArray, List.set_cons_zero, List.set_cons_succ]
  refine tkY 1 ⟨some 5, .move (.tmp 0), 26, "ledger.go:101", #[], none⟩ ?v1z2 hHeld ?y1z2 ?r1z2
  case y1z2 => (intro w hSw; (try dsimp only at hSw); go_simp) <;> with_reducible rfl
  try simp only [Act.put, List.setIfInBounds_toArray, List.set_cons_zero, List.set_cons_succ]
  refine tkY 2 ⟨some 6, .nilCheck (.tmp 5), 0, "ledger.go:101", #[⟨1, .data⟩], none⟩ ?v2z3 hHeld ?y2z3 ?r2z3
  case y2z3 => (intro w hSw; (try dsimp only at hSw); go_simp) <;> with_reducible rfl
  try simp only [Act.put, List.setIfInBounds_toArray, List.set_cons_zero, List.set_cons_succ]
  refine tkY 3 ⟨some 7, .fieldAddr 97 (.tmp 6) 2, 0, "ledger.go:101", #[⟨2, .data⟩], none⟩ ?v3z4 hHeld ?y3z4 ?r3z4
  case y3z4 => (intro w hSw; (try dsimp only at hSw); go_simp) <;> with_reducible rfl
  try simp only [Act.put, List.setIfInBounds_toArray, List.set_cons_zero, List.set_cons_succ]
  refine tkY 4 ⟨some 8, .fieldAddr 95 (.tmp 7) 0, 0, "ledger.go:101", #[⟨3, .data⟩], none⟩ ?v4z5 hHeld ?y4z5 ?r4z5
  case y4z5 => (intro w hSw; (try dsimp only at hSw); go_simp) <;> with_reducible rfl
  try simp only [Act.put, List.setIfInBounds_toArray, List.set_cons_zero, List.set_cons_succ]
  refine tkY 5 ⟨some 9, .load 3 (.tmp 8), 3, "ledger.go:101", #[⟨4, .data⟩], none⟩ ?v5z6 hHeld ?y5z6 ?r5z6
  case y5z6 => (intro w hSw; (try dsimp only at hSw); go_simp) <;> with_reducible rfl
  try simp only [Act.put, List.setIfInBounds_toArray, List.set_cons_zero, List.set_cons_succ]
  refine tkY 6 ⟨some 10, .binOp .add 3 (.tmp 9) (.const (.int .i64 1)) 3, 3, "ledger.go:101", #[⟨5, .data⟩], none⟩ ?v6z7 hHeld ?y6z7 ?r6z7
  case y6z7 => (intro w hSw; (try dsimp only at hSw); go_simp) <;> with_reducible rfl
  try simp only [Act.put, List.setIfInBounds_toArray, List.set_cons_zero, List.set_cons_succ]
  refine tkY 7 ⟨some 11, .move (.tmp 0), 26, "ledger.go:101", #[], none⟩ ?v7z8 hHeld ?y7z8 ?r7z8
  case y7z8 => (intro w hSw; (try dsimp only at hSw); go_simp) <;> with_reducible rfl
  try simp only [Act.put, List.setIfInBounds_toArray, List.set_cons_zero, List.set_cons_succ]
  refine tkY 8 ⟨some 12, .nilCheck (.tmp 11), 0, "ledger.go:101", #[⟨7, .data⟩], none⟩ ?v8z9 hHeld ?y8z9 ?r8z9
  case y8z9 => (intro w hSw; (try dsimp only at hSw); go_simp) <;> with_reducible rfl
  try simp only [Act.put, List.setIfInBounds_toArray, List.set_cons_zero, List.set_cons_succ]
  refine tkY 9 ⟨some 13, .fieldAddr 97 (.tmp 12) 2, 0, "ledger.go:101", #[⟨8, .data⟩], none⟩ ?v9z10 hHeld ?y9z10 ?r9z10
  case y9z10 => (intro w hSw; (try dsimp only at hSw); go_simp) <;> with_reducible rfl
  try simp only [Act.put, List.setIfInBounds_toArray, List.set_cons_zero, List.set_cons_succ]
  refine tkY 10 ⟨some 14, .fieldAddr 95 (.tmp 13) 1, 0, "ledger.go:101", #[⟨9, .data⟩], none⟩ ?v10z11 hHeld ?y10z11 ?r10z11
  case y10z11 => (intro w hSw; (try dsimp only at hSw); go_simp) <;> with_reducible rfl
  try simp only [Act.put, List.setIfInBounds_toArray, List.set_cons_zero, List.set_cons_succ]
  refine tkY 11 ⟨some 15, .load 3 (.tmp 14), 3, "ledger.go:101", #[⟨10, .data⟩], none⟩ ?v11z12 hHeld ?y11z12 ?r11z12
  case y11z12 => (intro w hSw; (try dsimp only at hSw); go_simp) <;> with_reducible rfl
  try simp only [Act.put, List.setIfInBounds_toArray, List.set_cons_zero, List.set_cons_succ]
  refine tkY 12 ⟨some 16, .fieldAddr 66 (.tmp 3) 1, 0, "ledger.go:101", #[], none⟩ ?v12z13 hHeld ?y12z13 ?r12z13
  case y12z13 => (intro w hSw; (try dsimp only at hSw); go_simp) <;> with_reducible rfl
  try simp only [Act.put, List.setIfInBounds_toArray, List.set_cons_zero, List.set_cons_succ]
  refine tkY 13 ⟨some 17, .load 22 (.tmp 16), 22, "ledger.go:101", #[⟨12, .data⟩], none⟩ ?v13z14 hHeld ?y13z14 ?r13z14
  case y13z14 => (intro w hSw; (try dsimp only at hSw); go_simp) <;> with_reducible rfl
  try simp only [Act.put, List.setIfInBounds_toArray, List.set_cons_zero, List.set_cons_succ]
  refine tkY 14 ⟨some 18, .call { callee := .builtin .len, args := #[.tmp 17], argTypes := #[22] }, 3, "ledger.go:101", #[⟨13, .data⟩], none⟩ ?v14z15 hHeld ?y14z15 ?r14z15
  case y14z15 => (intro w hSw; (try dsimp only at hSw); go_simp) <;> with_reducible rfl
  try simp only [Act.put, List.setIfInBounds_toArray, List.set_cons_zero, List.set_cons_succ]
  refine tkY 15 ⟨some 19, .binOp .add 3 (.tmp 15) (.tmp 18) 3, 3, "ledger.go:101", #[⟨11, .data⟩, ⟨14, .data⟩], none⟩ ?v15z16 hHeld ?y15z16 ?r15z16
  case y15z16 => (intro w hSw; (try dsimp only at hSw); go_simp) <;> with_reducible rfl
  try simp only [Act.put, List.setIfInBounds_toArray, List.set_cons_zero, List.set_cons_succ]
  refine tkY 16 ⟨some 20, .fieldAddr 66 (.tmp 3) 0, 0, "ledger.go:101", #[], none⟩ ?v16z17 hHeld ?y16z17 ?r16z17
  case y16z17 => (intro w hSw; (try dsimp only at hSw); go_simp) <;> with_reducible rfl
  try simp only [Act.put, List.setIfInBounds_toArray, List.set_cons_zero, List.set_cons_succ]
  refine tkY 17 ⟨some 21, .load 3 (.tmp 20), 3, "ledger.go:101", #[⟨16, .data⟩], none⟩ ?v17z18 hHeld ?y17z18 ?r17z18
  case y17z18 => (intro w hSw; (try dsimp only at hSw); go_simp) <;> with_reducible rfl
  try simp only [Act.put, List.setIfInBounds_toArray, List.set_cons_zero, List.set_cons_succ]
  refine tkY 18 ⟨some 22, .build 95 #[(0, .tmp 10), (1, .tmp 19), (2, .tmp 21)], 95, "ledger.go:101", #[⟨6, .data⟩, ⟨15, .data⟩, ⟨17, .data⟩], none⟩ ?v18z19 hHeld ?y18z19 ?r18z19
  case y18z19 => (intro w hSw; (try dsimp only at hSw); go_simp) <;> with_reducible rfl
  try simp only [Act.put, List.setIfInBounds_toArray, List.set_cons_zero, List.set_cons_succ]
  refine wpAnyH_done (by kernel_rfl) ?_ _
  refine headPost_rest [{ dst := some 23, op := Go.Op.nilCheck (Go.Operand.tmp 4), type := 0, pos := "ledger.go:101", after := #[{ on := 0, ground := Go.Ground.data }, { on := 0, ground := Go.Ground.phase }, { on := 1, ground := Go.Ground.phase }, { on := 2, ground := Go.Ground.phase }, { on := 3, ground := Go.Ground.phase }, { on := 4, ground := Go.Ground.phase }, { on := 5, ground := Go.Ground.phase }, { on := 6, ground := Go.Ground.phase }, { on := 7, ground := Go.Ground.phase }, { on := 8, ground := Go.Ground.phase }, { on := 9, ground := Go.Ground.phase }, { on := 10, ground := Go.Ground.phase }, { on := 11, ground := Go.Ground.phase }, { on := 12, ground := Go.Ground.phase }, { on := 13, ground := Go.Ground.phase }, { on := 14, ground := Go.Ground.phase }, { on := 15, ground := Go.Ground.phase }, { on := 16, ground := Go.Ground.phase }, { on := 17, ground := Go.Ground.phase }, { on := 18, ground := Go.Ground.phase }], guard := none },
    { dst := some 24, op := Go.Op.fieldAddr 97 (Go.Operand.tmp 23) 2, type := 0, pos := "ledger.go:101", after := #[{ on := 19, ground := Go.Ground.data }, { on := 0, ground := Go.Ground.phase }, { on := 1, ground := Go.Ground.phase }, { on := 2, ground := Go.Ground.phase }, { on := 3, ground := Go.Ground.phase }, { on := 4, ground := Go.Ground.phase }, { on := 5, ground := Go.Ground.phase }, { on := 6, ground := Go.Ground.phase }, { on := 7, ground := Go.Ground.phase }, { on := 8, ground := Go.Ground.phase }, { on := 9, ground := Go.Ground.phase }, { on := 10, ground := Go.Ground.phase }, { on := 11, ground := Go.Ground.phase }, { on := 12, ground := Go.Ground.phase }, { on := 13, ground := Go.Ground.phase }, { on := 14, ground := Go.Ground.phase }, { on := 15, ground := Go.Ground.phase }, { on := 16, ground := Go.Ground.phase }, { on := 17, ground := Go.Ground.phase }, { on := 18, ground := Go.Ground.phase }], guard := none },
    { dst := none, op := Go.Op.store 95 (Go.Operand.tmp 24) (Go.Operand.tmp 22), type := 0, pos := "ledger.go:101", after := #[{ on := 20, ground := Go.Ground.data }, { on := 18, ground := Go.Ground.data }, { on := 0, ground := Go.Ground.phase }, { on := 1, ground := Go.Ground.phase }, { on := 2, ground := Go.Ground.phase }, { on := 3, ground := Go.Ground.phase }, { on := 4, ground := Go.Ground.phase }, { on := 5, ground := Go.Ground.phase }, { on := 6, ground := Go.Ground.phase }, { on := 7, ground := Go.Ground.phase }, { on := 8, ground := Go.Ground.phase }, { on := 9, ground := Go.Ground.phase }, { on := 10, ground := Go.Ground.phase }, { on := 11, ground := Go.Ground.phase }, { on := 12, ground := Go.Ground.phase }, { on := 13, ground := Go.Ground.phase }, { on := 14, ground := Go.Ground.phase }, { on := 15, ground := Go.Ground.phase }, { on := 16, ground := Go.Ground.phase }, { on := 17, ground := Go.Ground.phase }, { on := 18, ground := Go.Ground.phase }], guard := none }] (by kernel_rfl) rfl (by kernel_rfl) ?_
  go_wp2
  go_end0
  exact ⟨rfl, kF, oF⟩

end Go.Proofs.YtcgpgnajmfemhaaGreatDoor

namespace Go.Proofs.YtcgpgnajmfemhaaGreatDoor
open Go.RowKit

theorem room_yes (N k n : Nat) (h1 : 1 ≤ n) (h2 : n ≤ 4000) (h : k + (tsec n + 1) ≤ N) : n ≤ roomF N k := by unfold tsec at h; unfold roomF; omega
theorem room_no (N k n : Nat) (h1 : 1 ≤ n) (h : N < k + (tsec n + 1)) : roomF N k < n := by unfold tsec at h; unfold roomF; omega

/-- A log on a device that lives, behind i records at most. -/
def RmI (w : World) (base g bd bn N i : Nat) (wr : World) : Prop :=
  ∃ (k : Nat) (s : DevS) (bm c : Nat) (pr : Option Addr) (cr : Nat) (ls : List (List UInt8)), LB wr g bd (N : Int) (k : Int) (.slice pr ls.length cr) false ∧ RB wr base (.slice pr ls.length cr) ls ∧ Dev wr bd bn bm s ∧ Alive s N c ∧ c ≤ 200 * i ∧ ls.length ≤ i ∧ k ≤ N ∧ w.heap.size ≤ bm ∧ (∀ l ∈ ls, l.length ≤ 4000) ∧ Below w.heap.size w wr

theorem RmI.more {w : World} {base g bd bn N i : Nat} {wr : World} (h : RmI w base g bd bn N i wr) : RmI w base g bd bn N (i + 1) wr := by
  obtain ⟨k, s, bm, c, pr, cr, ls, h1, h2, h3, h4, h5, h6, h7, h8, h9, h10⟩ := h
  exact ⟨k, s, bm, c, pr, cr, ls, h1, h2, h3, h4, by omega, by omega, h7, h8, h9, h10⟩

theorem RmI.below {w : World} {base g bd bn N i : Nat} {wr : World} (h : RmI w base g bd bn N i wr) : Below w.heap.size w wr := by
  obtain ⟨k, s, bm, c, pr, cr, ls, h1, h2, h3, h4, h5, h6, h7, h8, h9, h10⟩ := h
  exact h10

theorem RmI.later {w : World} {base g bd bn N i : Nat} {wr w' : World} (h : RmI w base g bd bn N i wr) (hb : Below wr.heap.size wr w') : RmI w base g bd bn N i w' := by
  obtain ⟨k, s, bm, c, pr, cr, ls, h1, h2, h3, h4, h5, h6, h7, h8, h9, h10⟩ := h
  exact ⟨k, s, bm, c, pr, cr, ls, h1.same (hb.block _ h1.lt), h2.later hb, h3.later hb, h4, h5, h6, h7, h8, h9, h10.trans (hb.mono h10.size)⟩

/-- What a record that goes in leaves. -/
theorem RmI.put {w : World} {base g bd bn N c k : Nat} {wr w' : World} {s' : DevS} {bm bm' : Nat} {rs rs' : Value} {ls : List (List UInt8)} {i : Nat} {b : List UInt8} {r : Nat} {vs : List Value} (hw : Below w.heap.size w wr) (hbd : w.heap.size ≤ bd) (hbn : w.heap.size ≤ bn) (hg : w.heap.size ≤ g) (hbase : w.heap.size ≤ base) (ho : wr.ownsRow base 37 1 rs r vs) (hbm : w.heap.size ≤ bm) (hc : c ≤ 200 * i) (hl : ls.length ≤ i) (h9 : ∀ l ∈ ls, l.length ≤ 4000) (hb4 : b.length ≤ 4000) (hk : k + (tsec b.length + 1) ≤ N)
    (d : Dev w' bd bn bm' s') (a : Alive s' N (c + 200)) (e : bm' = bm ∨ wr.heap.size ≤ bm') (l : LB w' g bd (N : Int) ((k + (tsec b.length + 1) : Nat) : Int) rs' false) (o : RB w' base rs' (ls ++ [b])) (p : Part (fun q => q = bd ∨ q = bn ∨ q = bm ∨ q = g ∨ some q = rs.ownBlock) wr w') : RmI w base g bd bn N (i + 1) w' := by
  obtain ⟨pr, cr, rfl⟩ := o.pa.shape
  have hz := hw.size
  refine ⟨_, s', bm', c + 200, pr, cr, ls ++ [b], l, o, d, a, by omega, by simp; omega, hk, by omega, ?_, hw.trans (p.below hz ?_)⟩
  · intro x hx
    rcases List.mem_append.1 hx with h | h
    · exact h9 x h
    · simp at h; subst h; exact hb4
  · rintro q (e | e | e | e | e)
    · omega
    · omega
    · omega
    · omega
    · have := (ho.lt q e.symm).1; omega

set_option maxRecDepth 100000 in
set_option maxHeartbeats 1000000 in
theorem rm_step {w : World} {base g bd bn N i : Nat} {wr : World} (h : RmI w base g bd bn N i wr) (hT : Tabs w) (hs3 : 3 ≤ w.heap.size) (hbd : w.heap.size ≤ bd) (hbn : w.heap.size ≤ bn) (hg : w.heap.size ≤ g) (hbase : w.heap.size ≤ base) (hbase2 : base ≤ wr.heap.size) (hi : i ≤ 100) (hN : N ≤ 16384) (b : List UInt8) (p : Option Addr) (cp : Nat) (hv : HB w (.slice p b.length cp) b) (hb4 : b.length ≤ 4000) :
    Calls Tryz.prog 47 #[.pointer (some ⟨g, 0, none⟩), .slice p b.length cp] wr fun e w' => ∃ z : Int, e = .returned (.int .i64 z) ∧ RmI w base g bd bn N (i + 1) w' ∧ wr.heap.size ≤ w'.heap.size := by
  have h0 := h
  obtain ⟨k, s, bm, c, pr, cr, ls, h1, h2, h3, h4, h5, h6, h7, h8, h9, h10⟩ := h
  by_cases hb : 1 ≤ b.length
  · by_cases hf : N < k + (tsec b.length + 1)
    · refine (append_full (p := p) (cp := cp) h1 hb hb4 hf ⟨hN, h7⟩).mono ?_
      rintro e w' ⟨rfl, hb'⟩
      exact ⟨4, rfl, (h0.later hb').more, hb'.size⟩
    · obtain ⟨vs, ho1, _⟩ := id h2
      have hvb : ∀ a, p = some a → a.block ≠ bd ∧ a.block ≠ bn ∧ a.block ≠ bm := by
        intro a ha
        subst ha
        obtain ⟨b', o', e, hc⟩ := hv.addr (by omega)
        cases e
        obtain ⟨x, hx⟩ : ∃ x, b[0]? = some x := ⟨_, List.getElem?_eq_getElem (by omega)⟩
        have := cell_in (hc 0 x hx)
        refine ⟨?_, ?_, ?_⟩ <;> (show b' ≠ _; omega)
      refine (append_log (base := base) h1 h2 hbase2 h3 h4 (hT.later h10) ⟨by omega, by omega, by omega⟩ (hv.later h10) hvb hb hb4 (by omega) hN (by omega) (by omega)).mono ?_
      rintro e w' ⟨rfl, s', bm', rs', d, a, e1, l, o, pt⟩
      exact ⟨0, rfl, RmI.put h10 hbd hbn hg hbase ho1 h8 h5 h6 h9 hb4 (by omega) d a e1 l o pt, pt.size⟩
  · refine (append_arg (p := p) (cp := cp) h1 (by omega)).mono ?_
    rintro e w' ⟨rfl, rfl⟩
    exact ⟨1, rfl, h0.more, Nat.le_refl _⟩

theorem pa_of {w : World} {base : Nat} {v : Value} {ls : List (List UInt8)} {vs : List Value} (h1 : w.ownsRow base 37 1 v ls.length vs) (h2 : ∀ (j : Nat) u l, vs[j]? = some u → ls[j]? = some l → HB w u l) : PA w v ls := by
  have hl := h1.1
  rw [Nat.mul_one] at hl
  obtain ⟨_, q⟩ := h1
  rcases q with ⟨e0, h0⟩ | ⟨g, cap, cur, rfl, hb, hg, hle, hm, hsz, ht⟩
  · have h3 := List.eq_nil_of_length_eq_zero h0
    subst h3
    rw [e0]
    exact ⟨none, 0, [], rfl, Nat.le_refl _, Nat.zero_le _, fun _ => rfl, rfl, fun h => absurd rfl h, fun i x l h => by simp at h⟩
  · refine ⟨_, cap, vs, rfl, by simpa using hle, hm, (fun h => by cases h), by simp [hl], fun _ => ⟨g, 0, rfl, fun i x hx => ?_⟩, fun j u l hu hl => h2 j u l hu hl⟩
    rw [Nat.zero_add, cell_of_row w g i cur 37 (0, 0) hg]
    have hi : i < vs.length := (List.getElem?_eq_some_iff.1 hx).1
    rw [← ht, List.getElem?_take, if_pos (by omega)] at hx
    simpa using hx

theorem pa_snoc {w : World} {base : Nat} {v u : Value} {ls : List (List UInt8)} {b : List UInt8} {vs : List Value} (h1 : w.ownsRow base 37 1 v (ls.length + 1) (vs ++ [u])) (hvl : vs.length = ls.length) (h2 : ∀ (j : Nat) u l, vs[j]? = some u → ls[j]? = some l → HB w u l) (hu : HB w u b) : PA w v (ls ++ [b]) := by
  refine pa_of (vs := vs ++ [u]) (base := base) (by simpa using h1) fun j y l hy hl => ?_
  by_cases hj : j < ls.length
  · rw [List.getElem?_append_left (by omega)] at hy
    rw [List.getElem?_append_left hj] at hl
    exact h2 j y l hy hl
  · rw [List.getElem?_append_right (by omega), hvl] at hy
    rw [List.getElem?_append_right (by omega)] at hl
    cases hjk : j - ls.length with
    | zero =>
      rw [hjk] at hy hl
      simp at hy hl
      subst hy; subst hl
      exact hu
    | succ m => rw [hjk] at hy; simp at hy

theorem dev_lt {w : World} {bd bn bm : Nat} {s : DevS} (h : Dev w bd bn bm s) : bd < w.heap.size ∧ bn < w.heap.size ∧ bm < w.heap.size := by
  have h1 := h.db
  obtain ⟨cs, h2, _⟩ := h.sr
  obtain ⟨D, ⟨es, clock, h3, _⟩, _⟩ := h.dm
  unfold DB at h1
  exact ⟨(Array.getElem?_eq_some_iff.1 h1).1, (Array.getElem?_eq_some_iff.1 h2).1, (Array.getElem?_eq_some_iff.1 h3).1⟩

theorem sty_put {w w' : World} {g bd bn bm base r : Nat} {n k : Int} {rs : Value} {st : Bool} {s : DevS} {vs : List Value} (d : Dev w bd bn bm s) (l : LB w g bd n k rs st) (o : w.ownsRow base 37 1 rs r vs) (p : Part (fun q => q = bd ∨ q = bn ∨ q = bm ∨ q = g ∨ some q = rs.ownBlock) w w') : Sty 5 w w' := by
  refine Sty.of_part p ?_
  have h1 := d.db
  obtain ⟨cs, h2, _⟩ := d.sr
  obtain ⟨D, ⟨es, clock, h3, _⟩, _⟩ := d.dm
  unfold DB at h1
  unfold LB at l
  rintro q cur fr (rfl | rfl | rfl | rfl | e) hq
  · rw [h1] at hq; simp at hq
  · rw [h2] at hq; simp at hq
  · rw [h3] at hq; simp at hq
  · rw [l] at hq; simp at hq
  · rcases o.2 with ⟨rfl, _⟩ | ⟨g', cap, cur', rfl, _, hg', _⟩
    · cases e
    · obtain rfl : q = g' := by simpa [Value.ownBlock] using e
      rw [hg'] at hq
      simp at hq

end Go.Proofs.YtcgpgnajmfemhaaGreatDoor

namespace Go.Proofs.YtcgpgnajmfemhaaGreatDoor
open Go.RowKit

/-- The ledger in block g with its log and its device; all of it lies from B on. -/
def LS (B g gl N kk K : Nat) (s h mi mk ch ar ca pg n c t : Int) (ls : List (List UInt8)) (w : World) : Prop :=
  ∃ (bd bn bm base cc cr : Nat) (pr : Option Addr) (st : DevS), LG w g gl s h mi mk ch ar ca pg n c t ∧ LB w gl bd (N : Int) (kk : Int) (.slice pr ls.length cr) false ∧ RB w base (.slice pr ls.length cr) ls ∧ base ≤ w.heap.size ∧ B ≤ base ∧ Dev w bd bn bm st ∧ Alive st N cc ∧ cc ≤ K ∧ (B ≤ bd ∧ B ≤ bn ∧ B ≤ bm) ∧ B ≤ gl ∧ B ≤ g

theorem LS.later {B g gl N kk K : Nat} {s h mi mk ch ar ca pg n c t : Int} {ls : List (List UInt8)} {w w' : World} (H : LS B g gl N kk K s h mi mk ch ar ca pg n c t ls w) (hb : Below w.heap.size w w') : LS B g gl N kk K s h mi mk ch ar ca pg n c t ls w' := by
  obtain ⟨bd, bn, bm, base, cc, cr, pr, st, h1, h2, h3, h4, h5, h6, h7, h8, h9, h10, h11⟩ := H
  exact ⟨bd, bn, bm, base, cc, cr, pr, st, h1.same (hb.block _ h1.lt), h2.same (hb.block _ h2.lt), h3.later hb, Nat.le_trans h4 hb.size, h5, h6.later hb, h7, h8, h9, h10, h11⟩

theorem sty_putT {T : TypeId} (t1 : 197 ≠ T) (t2 : 214 ≠ T) (t3 : 157 ≠ T) (t4 : 37 ≠ T) {w w' : World} {g bd bn bm base r : Nat} {n k : Int} {rs : Value} {st : Bool} {s : DevS} {vs : List Value} (d : Dev w bd bn bm s) (l : LB w g bd n k rs st) (o : w.ownsRow base 37 1 rs r vs) (p : Part (fun q => q = bd ∨ q = bn ∨ q = bm ∨ q = g ∨ some q = rs.ownBlock) w w') : Sty T w w' := by
  refine Sty.of_part p ?_
  have h1 := d.db
  obtain ⟨cs, h2, _⟩ := d.sr
  obtain ⟨D, ⟨es, clock, h3, _⟩, _⟩ := d.dm
  unfold DB at h1
  unfold LB at l
  rintro q cur fr (rfl | rfl | rfl | rfl | e) hq
  · rw [h1] at hq; simp only [Option.some.injEq, Obj.cells.injEq] at hq; exact t1 hq.2.1
  · rw [h2] at hq; simp only [Option.some.injEq, Obj.cells.injEq] at hq; exact t2 hq.2.1
  · rw [h3] at hq; simp at hq
  · rw [l] at hq; simp only [Option.some.injEq, Obj.cells.injEq] at hq; exact t3 hq.2.1
  · rcases o.2 with ⟨rfl, _⟩ | ⟨g', cap, cur', rfl, _, hg', _⟩
    · cases e
    · obtain rfl : q = g' := by simpa [Value.ownBlock] using e
      rw [hg'] at hq
      simp only [Option.some.injEq, Obj.cells.injEq] at hq
      exact t4 hq.2.1

/-- A store into the ledger's own block leaves its log and its device. -/
theorem only_lg {w w' : World} {g gl bd bn bm base r : Nat} {s h mi mk ch ar ca pg n c t N k : Int} {rs : Value} {st : DevS} {sp : Bool} {vs : List Value} (kg : LG w g gl s h mi mk ch ar ca pg n c t) (ho : Only g w w') (d : Dev w bd bn bm st) (l : LB w gl bd N k rs sp) (o : w.ownsRow base 37 1 rs r vs) : Dev w' bd bn bm st ∧ LB w' gl bd N k rs sp ∧ Sty 5 w w' ∧ ∀ b, rs.ownBlock = some b → w'.heap[b]? = w.heap[b]? := by
  have h1 := d.db
  obtain ⟨cs, h2, _⟩ := id d.sr
  obtain ⟨D, ⟨es, clock, h3, _⟩, _⟩ := id d.dm
  unfold DB at h1
  unfold LG at kg
  have l0 := l
  unfold LB at l
  refine ⟨d.same ?_, l0.same (ho.block gl ?_ l0.lt), ?_, ?_⟩
  · rintro q (rfl | rfl | rfl)
    · exact ho.block _ (by rintro rfl; rw [kg] at h1; simp at h1) (Array.getElem?_eq_some_iff.1 h1).1
    · exact ho.block _ (by rintro rfl; rw [kg] at h2; simp at h2) (Array.getElem?_eq_some_iff.1 h2).1
    · exact ho.block _ (by rintro rfl; rw [kg] at h3; simp at h3) (Array.getElem?_eq_some_iff.1 h3).1
  · rintro rfl
    rw [kg] at l
    simp at l
  · intro q cur fr hq
    rw [ho.block q (by rintro rfl; rw [kg] at hq; simp at hq) (Array.getElem?_eq_some_iff.1 hq).1]
    exact hq
  · intro b hb
    rcases o.2 with ⟨rfl, _⟩ | ⟨g', cap, cur', rfl, _, hg', _⟩
    · cases hb
    · obtain rfl : b = g' := by simpa [Value.ownBlock] using hb.symm
      exact ho.block _ (by rintro rfl; rw [kg] at hg'; simp at hg') (Array.getElem?_eq_some_iff.1 hg').1

end Go.Proofs.YtcgpgnajmfemhaaGreatDoor
