/- What this text proves: the walk of the statement ChangeCheck over this program: it answers true for any arguments, and writes nothing that was there. -/
import Derived.Test.YtichffdkihifpaaBRCheck
import Derived.Test.YtichffdkihifpaaBAwake
import Derived.Test.YtichffdkihifpaaRegHeld
namespace Go.Proofs.Ytichffdkihifpaa
open Go.RowKit

set_option maxRecDepth 100000 in
set_option maxHeartbeats 4000000 in
theorem bcheckWalk (a b mi mk c' d' e' f' : Int) (v : Value) (b0 : List (List UInt8 × List UInt8)) (w : World) (h : BA w v b0) :
    Calls Try.prog 3 #[.agg #[.int .i64 a, .int .i64 b, .int .i64 mi, .int .i64 mk, .int .i64 c', .int .i64 d', .int .i64 e', .int .i64 f'], v] w fun e w' => e = .returned (.bool true) ∧ Below w.heap.size w w' := by
  have bA := (Below.refl w.heap.size w).alloc (Nat.le_refl _) (.cells #[.int .i64 a, .int .i64 b, .int .i64 mi, .int .i64 mk, .int .i64 c', .int .i64 d', .int .i64 e', .int .i64 f'] 23)
  have gA := heap_alloc_new w (.cells #[.int .i64 a, .int .i64 b, .int .i64 mi, .int .i64 mk, .int .i64 c', .int .i64 d', .int .i64 e', .int .i64 f'] 23)
  obtain ⟨V, hV⟩ : ∃ V, V = w.alloc (.cells #[.int .i64 a, .int .i64 b, .int .i64 mi, .int .i64 mk, .int .i64 c', .int .i64 d', .int .i64 e', .int .i64 f'] 23) := ⟨_, rfl⟩
  rw [← hV] at bA gA
  have hF := bfew_any v b0 V (h.later bA)
  generalize b0.take 40 = bs at *
  clear h
  have hg : w.heap.size < V.heap.size := (Array.getElem?_eq_some_iff.1 gA).1
  have hcells : ∀ W, Below V.heap.size V W → W.cell? ⟨w.heap.size, 0, none⟩ = some (.int .i64 a) ∧ W.cell? ⟨w.heap.size, 1, none⟩ = some (.int .i64 b) ∧ W.cell? ⟨w.heap.size, 2, none⟩ = some (.int .i64 mi) ∧ W.cell? ⟨w.heap.size, 3, none⟩ = some (.int .i64 mk) ∧ W.cell? ⟨w.heap.size, 4, none⟩ = some (.int .i64 c') ∧ W.cell? ⟨w.heap.size, 5, none⟩ = some (.int .i64 d') ∧ W.cell? ⟨w.heap.size, 6, none⟩ = some (.int .i64 e') ∧ W.cell? ⟨w.heap.size, 7, none⟩ = some (.int .i64 f') := by
    intro W hB
    have g1 := (hB.block _ hg).trans gA
    refine ⟨?_, ?_, ?_, ?_, ?_, ?_, ?_, ?_⟩ <;> (rw [cell_of_row _ _ _ _ _ _ g1]; rfl)
  go_enter Try.func3, Try.ntmps3
  go_wp2_with fail
  rw [← hV]
  refine hF.mono ?_
  rintro e w1 ⟨p1, c1, rfl, k1, hw⟩
  have hw2 := hw.symm
  clear hw hF hV
  subst hw2
  go_wp2
  have bD : Below V.heap.size V V.drew := (Below.refl _ V).drew
  have hHeld := hcells V.drew bD
  refine wp_region_heldN (by kernel_rfl) (fun W => W.cell? ⟨w.heap.size, 0, none⟩ = some (.int .i64 a) ∧ W.cell? ⟨w.heap.size, 1, none⟩ = some (.int .i64 b) ∧ W.cell? ⟨w.heap.size, 2, none⟩ = some (.int .i64 mi) ∧ W.cell? ⟨w.heap.size, 3, none⟩ = some (.int .i64 mk) ∧ W.cell? ⟨w.heap.size, 4, none⟩ = some (.int .i64 c') ∧ W.cell? ⟨w.heap.size, 5, none⟩ = some (.int .i64 d') ∧ W.cell? ⟨w.heap.size, 6, none⟩ = some (.int .i64 e') ∧ W.cell? ⟨w.heap.size, 7, none⟩ = some (.int .i64 f')) 11 rfl ?_
  refine wpAnyH_take (i := 0) (oi := { dst := some 7, op := Op.load 23 (Operand.tmp 2), type := 23, pos := "law.go:24", after := #[], guard := none }) (v := ?v0) rfl (by kernel_rfl) (by kernel_rfl) (by kernel_rfl) (fun _ _ _ h => h) (Or.inl ⟨by rfl, ?y0⟩) hHeld ?r0
  case y0 => (intro w hSw; (try dsimp only at hSw); go_simp) <;> with_reducible rfl
  try simp only [Act.put, List.setIfInBounds_toArray, List.set_cons_zero, List.set_cons_succ]
  refine wpAnyH_take (i := 1) (oi := { dst := some 8, op := Op.move (Operand.tmp 1), type := 24, pos := "law.go:24", after := #[], guard := none }) (v := ?v1) rfl (by kernel_rfl) (by kernel_rfl) (by kernel_rfl) (fun _ _ _ h => h) (Or.inl ⟨by rfl, ?y1⟩) hHeld ?r1
  case y1 => (intro w hSw; (try dsimp only at hSw); go_simp) <;> with_reducible rfl
  try simp only [Act.put, List.setIfInBounds_toArray, List.set_cons_zero, List.set_cons_succ]
  refine wpAnyH_take (i := 3) (oi := { dst := some 10, op := Op.load 23 (Operand.tmp 2), type := 23, pos := "law.go:24", after := #[], guard := none }) (v := ?v3) rfl (by kernel_rfl) (by kernel_rfl) (by kernel_rfl) (fun _ _ _ h => h) (Or.inl ⟨by rfl, ?y3⟩) hHeld ?r3
  case y3 => (intro w hSw; (try dsimp only at hSw); go_simp) <;> with_reducible rfl
  try simp only [Act.put, List.setIfInBounds_toArray, List.set_cons_zero, List.set_cons_succ]
  refine wpAnyH_take (i := 4) (oi := { dst := some 11, op := Op.move (Operand.tmp 1), type := 24, pos := "law.go:24", after := #[], guard := none }) (v := ?v4) rfl (by kernel_rfl) (by kernel_rfl) (by kernel_rfl) (fun _ _ _ h => h) (Or.inl ⟨by rfl, ?y4⟩) hHeld ?r4
  case y4 => (intro w hSw; (try dsimp only at hSw); go_simp) <;> with_reducible rfl
  try simp only [Act.put, List.setIfInBounds_toArray, List.set_cons_zero, List.set_cons_succ]
  refine wpAnyH_ready (rs := [2]) (by kernel_rfl) (by simp) ?_
  refine AllReadyH.cons (o := { dst := some 9, op := Op.call { callee := Callee.value (Operand.func 5), args := #[Operand.tmp 7, Operand.tmp 8], argTypes := #[23, 24] }, type := 26, pos := "law.go:24", after := #[{ on := 0, ground := Ground.data }, { on := 1, ground := Ground.data }], guard := none }) rfl (fun K hK => ?_) AllReadyH.nil
  go_simp
  refine (check_any a b mi mk c' d' e' f' _ bs _ (k1.later bD)).mono ?_
  rintro x w2 ⟨er, rfl, hc2, hb2'⟩
  have hb2 := bD.trans (hb2'.mono bD.size)
  replace hHeld := hcells w2 hb2
  refine hK.out _ _ ?_ (fun _ => ?_)
  · exact hHeld
  clear hK K
  try simp only [Act.put, List.setIfInBounds_toArray, List.set_cons_zero, List.set_cons_succ]
  refine wpAnyH_ready (rs := [5]) (by kernel_rfl) (by simp) ?_
  refine AllReadyH.cons (o := { dst := some 12, op := Op.call { callee := Callee.value (Operand.func 6), args := #[Operand.tmp 10, Operand.tmp 11], argTypes := #[23, 24] }, type := 26, pos := "law.go:24", after := #[{ on := 3, ground := Ground.data }, { on := 4, ground := Ground.data }, { on := 2, ground := Ground.chain }], guard := none }) rfl (fun K hK => ?_) AllReadyH.nil
  go_simp
  refine (rcheck_any a b mi mk c' d' e' f' _ bs _ (k1.later hb2)).mono ?_
  rintro x w3 ⟨er3, rfl, hc3, hb3'⟩
  have hb3 := hb2.trans (hb3'.mono hb2.size)
  replace hHeld := hcells w3 hb3
  obtain rfl := chk_one hc2 hc3
  refine hK.out _ _ ?_ (fun _ => ?_)
  · exact hHeld
  clear hK K
  try simp only [Act.put, List.setIfInBounds_toArray, List.set_cons_zero, List.set_cons_succ]
  refine wpAnyH_take (i := 6) (oi := { dst := some 13, op := Op.binOp BinOp.eql 26 (Operand.tmp 9) (Operand.tmp 12) 26, type := 4, pos := "law.go:24", after := #[{ on := 2, ground := Ground.data }, { on := 5, ground := Ground.data }], guard := none }) (v := ?v6) rfl (by kernel_rfl) (by kernel_rfl) (by kernel_rfl) (fun _ _ _ h => h) (Or.inl ⟨by rfl, ?y6⟩) hHeld ?r6
  case y6 => (intro w hSw; (try dsimp only at hSw); go_simp) <;> with_reducible rfl
  try simp only [Act.put, List.setIfInBounds_toArray, List.set_cons_zero, List.set_cons_succ]
  refine wpAnyH_take (i := 7) (oi := { dst := some 14, op := Op.move (Operand.tmp 13), type := 4, pos := "law.go:24", after := #[{ on := 6, ground := Ground.data }, { on := 5, ground := Ground.chain }], guard := none }) (v := ?v7) rfl (by kernel_rfl) (by kernel_rfl) (by kernel_rfl) (fun _ _ _ h => h) (Or.inl ⟨by rfl, ?y7⟩) hHeld ?r7
  case y7 => (intro w hSw; (try dsimp only at hSw); go_simp) <;> with_reducible rfl
  try simp only [Act.put, List.setIfInBounds_toArray, List.set_cons_zero, List.set_cons_succ]
  refine wpAnyH_ready (rs := [8]) (by kernel_rfl) (by simp) ?_
  refine AllReadyH.cons (o := { dst := some 15, op := Op.call { callee := Callee.value (Operand.func 7), args := #[], argTypes := #[] }, type := 4, pos := "law.go:24", after := #[{ on := 7, ground := Ground.chain }, { on := 7, ground := Ground.guard }], guard := some (7, true) }) rfl (fun K hK => ?_) AllReadyH.nil
  go_simp
  refine (bawake_any _).mono ?_
  rintro x w4 ⟨rfl, hb4'⟩
  have hb4 := hb3.trans (hb4'.mono hb3.size)
  replace hHeld := hcells w4 hb4
  refine hK.out _ _ ?_ (fun _ => ?_)
  · exact hHeld
  clear hK K
  try simp only [Act.put, List.setIfInBounds_toArray, List.set_cons_zero, List.set_cons_succ]
  refine wpAnyH_take (i := 9) (oi := { dst := some 16, op := Op.pick (Operand.tmp 14) (Operand.tmp 15) (Operand.const (Value.bool false)), type := 4, pos := "law.go:24", after := #[{ on := 7, ground := Ground.data }, { on := 8, ground := Ground.data }], guard := none }) (v := ?v9) rfl (by kernel_rfl) (by kernel_rfl) (by kernel_rfl) (fun _ _ _ h => h) (Or.inl ⟨by rfl, ?y9⟩) hHeld ?r9
  case y9 => (intro w hSw; (try dsimp only at hSw); go_simp) <;> with_reducible rfl
  try simp only [Act.put, List.setIfInBounds_toArray, List.set_cons_zero, List.set_cons_succ]
  refine wpAnyH_take (i := 10) (oi := { dst := some 4, op := Op.assign (Operand.tmp 16), type := 4, pos := "law.go:24", after := #[{ on := 9, ground := Ground.data }, { on := 8, ground := Ground.chain }, { on := 0, ground := Ground.phase }, { on := 1, ground := Ground.phase }, { on := 2, ground := Ground.phase }, { on := 3, ground := Ground.phase }, { on := 4, ground := Ground.phase }, { on := 5, ground := Ground.phase }, { on := 6, ground := Ground.phase }, { on := 7, ground := Ground.phase }, { on := 8, ground := Ground.phase }, { on := 9, ground := Ground.phase }], guard := none }) (v := ?v10) rfl (by kernel_rfl) (by kernel_rfl) (by kernel_rfl) (fun _ _ _ h => h) (Or.inl ⟨by rfl, ?y10⟩) hHeld ?r10
  case y10 => (intro w hSw; (try dsimp only at hSw); go_simp) <;> with_reducible rfl
  try simp only [Act.put, List.setIfInBounds_toArray, List.set_cons_zero, List.set_cons_succ]
  refine wpAnyH_done (by kernel_rfl) ?_ _
  have hbF := bA.trans (hb4.mono bA.size)
  clear hHeld hcells hb2 hb2' hb3 hb3' hb4 hb4' hc2 hc3 k1 gA bD bA
  go_wp2
  go_ret
  exact ⟨rfl, hbF⟩

end Go.Proofs.Ytichffdkihifpaa
