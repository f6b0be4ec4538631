/- What this text proves: the walk of merkle.Fold over this program where all is right, and some digests are outside. -/
import Derived.Test.YtichffdkihifpaaDoorKFoldOver
namespace Go.Proofs.YtichffdkihifpaaDoor
open Go.RowKit

set_option maxRecDepth 100000 in
set_option maxHeartbeats 600000 in
theorem fold_part (size : Int) (n lo hi C : Nat) (iv ov : Value) (ins outs : List (List UInt8)) (w : World) (hi' : PA w iv ins) (ho' : PA w ov outs) (hhi : lo + ins.length = hi) (hb : outs.length ≤ 140737488355328) (h1 : hi ≤ n) (h2 : n ≤ 1048576) (h3 : 1 ≤ size) (h4 : size ≤ 32) (hC : Hid (cntF (n : Int) (lo : Int) (hi : Int) = C)) (hne : outs.length = C) (ha : allLen size ins = true) (hb2 : allLen size outs = true) (hT : Tabs w) (hln : ¬ ins.length = n) :
    Calls Tryd.prog 18 #[.int .i64 size, .int .i64 (n : Int), .int .i64 (lo : Int), iv, ov] w fun x w' => ∃ p c, x = .returned (.tuple #[.slice p (fldF size n lo hi ins outs).length c, .int .i64 0]) ∧ HB w' (.slice p (fldF size n lo hi ins outs).length c) (fldF size n lo hi ins outs) ∧ Below w.heap.size w w' := by
  have hS1 := fun W hp => sizedK_any size iv ins W hp (by omega)
  have hS2 := fun W hp => sizedK_any size ov outs W hp hb
  obtain ⟨p, c, hiv⟩ := hi'.shape
  obtain ⟨q, d, hov⟩ := ho'.shape
  have hCt := fun w => count_any (n : Int) (lo : Int) (hi : Int) w
  rw [hC.out] at hCt
  have e1 : (lo : Int) + (ins.length : Int) = (hi : Int) := by omega
  have d3 : decide ((n : Int) - (lo : Int) < (ins.length : Int)) = false := by simp; omega
  have d4 : decide ((lo : Int) < 0) = false := by simp
  have d5 : decide (n < lo) = false := by simp; omega
  have d6 : decide ((1048576 : Int) < (n : Int)) = false := by simp; omega
  have d7 : decide (size < 1) = false := by simp; omega
  have d8 : decide (32 < size) = false := by simp; omega
  have d1 : ((outs.length : Int) != (C : Int)) = false := by simp; omega
  have hlen : (fldF size n lo hi ins outs).length ≤ 140737488355328 := Nat.le_trans (ovF_len size 32 (Nat.le_refl _) _ (fun s b e l h => knF_len ha hb2 h4 s b e l h) 20 0 n 0) (by decide)
  have hcn : outs.length = (wo lo hi 20 0 n).length := by
    rw [hne, ← hC.out]
    unfold cntF
    rw [if_pos (by omega)]
    simp
  have hR : ∀ g W, FB w g lo hi iv ov 0 W → Calls Tryd.prog 30 #[.int .i64 size, .int .i64 0, .int .i64 (n : Int), .func (.func 43) #[] #[.pointer (some ⟨w.heap.size, 0, none⟩), .pointer (some ⟨w.heap.size + 1 + 1 + 1, 0, none⟩), .pointer (some ⟨g, 0, none⟩), .pointer (some ⟨w.heap.size + 1 + 1, 0, none⟩), .pointer (some ⟨w.heap.size + 1, 0, none⟩)]] W fun x w' => ∃ p c, x = .returned (.slice p (fldF size n lo hi ins outs).length c) ∧ HB w' (.slice p (fldF size n lo hi ins outs).length c) (fldF size n lo hi ins outs) ∧ Below w.heap.size w w' := fun g W hB => fold_over size n lo hi g iv ov ins outs w W hT hi' ho' hhi.symm hb h1 h2 (by omega) hcn hB
  generalize fldF size n lo hi ins outs = F at *
  rw [ha] at hS1
  rw [hb2] at hS2
  have dn : ((ins.length : Int) == (n : Int)) = false := by simp; omega
  subst hiv
  subst hov
  obtain ⟨V, hV⟩ : ∃ V, V = (((w.alloc (.cells #[.int .i64 (lo : Int)] 3)).alloc (.cells #[.slice p ins.length c] 22)).alloc (.cells #[.slice q outs.length d] 22)).alloc (.cells #[.int .i64 (hi : Int)] 3) := ⟨_, rfl⟩
  have hX := BX.made w lo hi (.slice p ins.length c) (.slice q outs.length d)
  rw [← hV] at hX
  clear hhi hC hne ha hb2 hln hcn
  go_enter Tryd.func18, Tryd.ntmps18
  go_wp2_with fail
  rw [← hV]
  clear hV e1
  obtain ⟨v0, v1, v2, v3⟩ := hX.cells
  have hsP := fun W (hB : Below V.heap.size V W) => hS1 W (hi'.later (hX.later hB).2.2.2.2.1)
  have hsQ := fun W (hB : Below V.heap.size V W) => hS2 W (ho'.later (hX.later hB).2.2.2.2.1)
  clear hS1 hS2
  have hHeld := (hX.later ((Below.refl _ V).drew)).cells
  refine wp_region_heldN (by kernel_rfl) (fun w' => w'.cell? ⟨w.heap.size, 0, none⟩ = some (.int .i64 (lo : Int)) ∧ w'.cell? ⟨w.heap.size + 1, 0, none⟩ = some (.slice p ins.length c) ∧ w'.cell? ⟨w.heap.size + 1 + 1, 0, none⟩ = some (.slice q outs.length d) ∧ w'.cell? ⟨w.heap.size + 1 + 1 + 1, 0, none⟩ = some (.int .i64 (hi : Int))) 19 rfl ?_
  refine wpAnyH_take (i := 0) (oi := { dst := some 46, op := Op.load 22 (Operand.tmp 9), type := 22, pos := "merkle.go:100", after := #[], guard := none }) (v := ?v0) rfl (by kernel_rfl) (by kernel_rfl) (by kernel_rfl) (fun _ _ _ h => h) (Or.inl ⟨by rfl, ?y0⟩) hHeld ?r0
  case y0 => (intro w hSw; (try dsimp only at hSw); go_simp) <;> with_reducible rfl
  try simp only [Act.put, List.setIfInBounds_toArray, List.set_cons_zero, List.set_cons_succ]
  refine wpAnyH_take (i := 1) (oi := { dst := some 47, op := Op.call { callee := Callee.builtin Builtin.len, args := #[Operand.tmp 46], argTypes := #[22] }, type := 3, pos := "merkle.go:100", after := #[{ on := 0, ground := Ground.data }], guard := none }) (v := ?v1) rfl (by kernel_rfl) (by kernel_rfl) (by kernel_rfl) (fun _ _ _ h => h) (Or.inl ⟨by rfl, ?y1⟩) hHeld ?r1
  case y1 => (intro w hSw; (try dsimp only at hSw); go_simp) <;> with_reducible rfl
  try simp only [Act.put, List.setIfInBounds_toArray, List.set_cons_zero, List.set_cons_succ]
  refine wpAnyH_take (i := 2) (oi := { dst := some 48, op := Op.move (Operand.tmp 1), type := 3, pos := "merkle.go:100", after := #[], guard := none }) (v := ?v2) rfl (by kernel_rfl) (by kernel_rfl) (by kernel_rfl) (fun _ _ _ h => h) (Or.inl ⟨by rfl, ?y2⟩) hHeld ?r2
  case y2 => (intro w hSw; (try dsimp only at hSw); go_simp) <;> with_reducible rfl
  try simp only [Act.put, List.setIfInBounds_toArray, List.set_cons_zero, List.set_cons_succ]
  refine wpAnyH_take (i := 3) (oi := { dst := some 49, op := Op.load 3 (Operand.tmp 7), type := 3, pos := "merkle.go:100", after := #[], guard := none }) (v := ?v3) rfl (by kernel_rfl) (by kernel_rfl) (by kernel_rfl) (fun _ _ _ h => h) (Or.inl ⟨by rfl, ?y3⟩) hHeld ?r3
  case y3 => (intro w hSw; (try dsimp only at hSw); go_simp) <;> with_reducible rfl
  try simp only [Act.put, List.setIfInBounds_toArray, List.set_cons_zero, List.set_cons_succ]
  refine wpAnyH_take (i := 4) (oi := { dst := some 50, op := Op.load 3 (Operand.tmp 12), type := 3, pos := "merkle.go:100", after := #[], guard := none }) (v := ?v4) rfl (by kernel_rfl) (by kernel_rfl) (by kernel_rfl) (fun _ _ _ h => h) (Or.inl ⟨by rfl, ?y4⟩) hHeld ?r4
  case y4 => (intro w hSw; (try dsimp only at hSw); go_simp) <;> with_reducible rfl
  try simp only [Act.put, List.setIfInBounds_toArray, List.set_cons_zero, List.set_cons_succ]
  refine wpAnyH_ready (rs := [5]) (by kernel_rfl) (by simp) ?_
  refine AllReadyH.cons (o := { dst := some 51, op := Op.call { callee := Callee.value (Operand.func 15), args := #[Operand.tmp 48, Operand.tmp 49, Operand.tmp 50], argTypes := #[3, 3, 3] }, type := 3, pos := "merkle.go:100", after := #[{ on := 2, ground := Ground.data }, { on := 3, ground := Ground.data }, { on := 4, ground := Ground.data }], guard := none }) rfl (fun K hK => ?_) AllReadyH.nil
  go_simp
  refine (hCt _).mono ?_
  rintro e w1 ⟨rfl, hb1'⟩
  have hb1 : Below V.heap.size V w1 := ((Below.refl _ V).drew).trans (hb1'.mono (by simp))
  replace hHeld := (hX.later hb1).cells
  refine hK.out _ _ ?_ (fun _ => ?_)
  · exact hHeld
  clear hK K
  try simp only [Act.put, List.setIfInBounds_toArray, List.set_cons_zero, List.set_cons_succ]
  refine wpAnyH_take (i := 6) (oi := { dst := some 52, op := Op.binOp BinOp.neq 3 (Operand.tmp 47) (Operand.tmp 51) 3, type := 4, pos := "merkle.go:100", after := #[{ on := 1, ground := Ground.data }, { on := 5, ground := Ground.data }], guard := none }) (v := ?v6) rfl (by kernel_rfl) (by kernel_rfl) (by kernel_rfl) (fun _ _ _ h => h) (Or.inl ⟨by rfl, ?y6⟩) hHeld ?r6
  case y6 => (intro w hSw; (try dsimp only at hSw); go_simp) <;> with_reducible rfl
  try simp only [Act.put, List.setIfInBounds_toArray, List.set_cons_zero, List.set_cons_succ]
  refine wpAnyH_take (i := 7) (oi := { dst := some 53, op := Op.move (Operand.tmp 52), type := 4, pos := "merkle.go:100", after := #[{ on := 6, ground := Ground.data }, { on := 5, ground := Ground.chain }], guard := none }) (v := ?v7) rfl (by kernel_rfl) (by kernel_rfl) (by kernel_rfl) (fun _ _ _ h => h) (Or.inl ⟨by rfl, ?y7⟩) hHeld ?r7
  case y7 => (intro w hSw; (try dsimp only at hSw); go_simp) <;> with_reducible rfl
  try simp only [Act.put, List.setIfInBounds_toArray, List.set_cons_zero, List.set_cons_succ]
  refine wpAnyH_take (i := 8) (oi := { dst := some 54, op := Op.move (Operand.tmp 0), type := 3, pos := "merkle.go:100", after := #[{ on := 7, ground := Ground.guard }], guard := some (7, false) }) (v := ?v8) rfl (by kernel_rfl) (by kernel_rfl) (by kernel_rfl) (fun _ _ _ h => h) (Or.inl ⟨by rfl, ?y8⟩) hHeld ?r8
  case y8 => (intro w hSw; (try dsimp only at hSw); go_simp) <;> with_reducible rfl
  try simp only [Act.put, List.setIfInBounds_toArray, List.set_cons_zero, List.set_cons_succ]
  refine wpAnyH_take (i := 9) (oi := { dst := some 55, op := Op.load 22 (Operand.tmp 8), type := 22, pos := "merkle.go:100", after := #[{ on := 7, ground := Ground.guard }], guard := some (7, false) }) (v := ?v9) rfl (by kernel_rfl) (by kernel_rfl) (by kernel_rfl) (fun _ _ _ h => h) (Or.inl ⟨by rfl, ?y9⟩) hHeld ?r9
  case y9 => (intro w hSw; (try dsimp only at hSw); go_simp) <;> with_reducible rfl
  try simp only [Act.put, List.setIfInBounds_toArray, List.set_cons_zero, List.set_cons_succ]
  refine wpAnyH_ready (rs := [10]) (by kernel_rfl) (by simp) ?_
  refine AllReadyH.cons (o := { dst := some 56, op := Op.call { callee := Callee.value (Operand.func 42), args := #[Operand.tmp 54, Operand.tmp 55], argTypes := #[3, 22] }, type := 4, pos := "merkle.go:100", after := #[{ on := 8, ground := Ground.data }, { on := 9, ground := Ground.data }, { on := 7, ground := Ground.chain }, { on := 7, ground := Ground.guard }], guard := some (7, false) }) rfl (fun K hK => ?_) AllReadyH.nil
  go_simp
  refine (hsP _ hb1).mono ?_
  rintro e w2 ⟨rfl, hw⟩
  subst hw
  refine hK.out _ _ ?_ (fun _ => ?_)
  · exact hHeld
  clear hK K
  try simp only [Act.put, List.setIfInBounds_toArray, List.set_cons_zero, List.set_cons_succ]
  refine wpAnyH_take (i := 11) (oi := { dst := some 57, op := Op.unOp UnOp.not 4 (Operand.tmp 56), type := 4, pos := "merkle.go:100", after := #[{ on := 10, ground := Ground.data }, { on := 7, ground := Ground.guard }], guard := some (7, false) }) (v := ?v11) rfl (by kernel_rfl) (by kernel_rfl) (by kernel_rfl) (fun _ _ _ h => h) (Or.inl ⟨by rfl, ?y11⟩) hHeld ?r11
  case y11 => (intro w hSw; (try dsimp only at hSw); go_simp) <;> with_reducible rfl
  try simp only [Act.put, List.setIfInBounds_toArray, List.set_cons_zero, List.set_cons_succ]
  refine wpAnyH_take (i := 12) (oi := { dst := some 58, op := Op.pick (Operand.tmp 53) (Operand.const (Value.bool true)) (Operand.tmp 57), type := 4, pos := "merkle.go:100", after := #[{ on := 7, ground := Ground.data }, { on := 11, ground := Ground.data }], guard := none }) (v := ?v12) rfl (by kernel_rfl) (by kernel_rfl) (by kernel_rfl) (fun _ _ _ h => h) (Or.inl ⟨by rfl, ?y12⟩) hHeld ?r12
  case y12 => (intro w hSw; (try dsimp only at hSw); go_simp) <;> with_reducible rfl
  try simp only [Act.put, List.setIfInBounds_toArray, List.set_cons_zero, List.set_cons_succ]
  refine wpAnyH_take (i := 13) (oi := { dst := some 59, op := Op.move (Operand.tmp 58), type := 4, pos := "merkle.go:100", after := #[{ on := 12, ground := Ground.data }, { on := 10, ground := Ground.chain }], guard := none }) (v := ?v13) rfl (by kernel_rfl) (by kernel_rfl) (by kernel_rfl) (fun _ _ _ h => h) (Or.inl ⟨by rfl, ?y13⟩) hHeld ?r13
  case y13 => (intro w hSw; (try dsimp only at hSw); go_simp) <;> with_reducible rfl
  try simp only [Act.put, List.setIfInBounds_toArray, List.set_cons_zero, List.set_cons_succ]
  refine wpAnyH_take (i := 14) (oi := { dst := some 60, op := Op.move (Operand.tmp 0), type := 3, pos := "merkle.go:100", after := #[{ on := 13, ground := Ground.guard }], guard := some (13, false) }) (v := ?v14) rfl (by kernel_rfl) (by kernel_rfl) (by kernel_rfl) (fun _ _ _ h => h) (Or.inl ⟨by rfl, ?y14⟩) hHeld ?r14
  case y14 => (intro w hSw; (try dsimp only at hSw); go_simp) <;> with_reducible rfl
  try simp only [Act.put, List.setIfInBounds_toArray, List.set_cons_zero, List.set_cons_succ]
  refine wpAnyH_take (i := 15) (oi := { dst := some 61, op := Op.load 22 (Operand.tmp 9), type := 22, pos := "merkle.go:100", after := #[{ on := 13, ground := Ground.guard }], guard := some (13, false) }) (v := ?v15) rfl (by kernel_rfl) (by kernel_rfl) (by kernel_rfl) (fun _ _ _ h => h) (Or.inl ⟨by rfl, ?y15⟩) hHeld ?r15
  case y15 => (intro w hSw; (try dsimp only at hSw); go_simp) <;> with_reducible rfl
  try simp only [Act.put, List.setIfInBounds_toArray, List.set_cons_zero, List.set_cons_succ]
  refine wpAnyH_ready (rs := [16]) (by kernel_rfl) (by simp) ?_
  refine AllReadyH.cons (o := { dst := some 62, op := Op.call { callee := Callee.value (Operand.func 42), args := #[Operand.tmp 60, Operand.tmp 61], argTypes := #[3, 22] }, type := 4, pos := "merkle.go:100", after := #[{ on := 14, ground := Ground.data }, { on := 15, ground := Ground.data }, { on := 13, ground := Ground.chain }, { on := 13, ground := Ground.guard }], guard := some (13, false) }) rfl (fun K hK => ?_) AllReadyH.nil
  go_simp
  refine (hsQ _ hb1).mono ?_
  rintro e w2 ⟨rfl, hw⟩
  subst hw
  refine hK.out _ _ ?_ (fun _ => ?_)
  · exact hHeld
  clear hK K
  try simp only [Act.put, List.setIfInBounds_toArray, List.set_cons_zero, List.set_cons_succ]
  refine wpAnyH_take (i := 17) (oi := { dst := some 63, op := Op.unOp UnOp.not 4 (Operand.tmp 62), type := 4, pos := "merkle.go:100", after := #[{ on := 16, ground := Ground.data }, { on := 13, ground := Ground.guard }], guard := some (13, false) }) (v := ?v17) rfl (by kernel_rfl) (by kernel_rfl) (by kernel_rfl) (fun _ _ _ h => h) (Or.inl ⟨by rfl, ?y17⟩) hHeld ?r17
  case y17 => (intro w hSw; (try dsimp only at hSw); go_simp) <;> with_reducible rfl
  try simp only [Act.put, List.setIfInBounds_toArray, List.set_cons_zero, List.set_cons_succ]
  refine wpAnyH_take (i := 18) (oi := { dst := some 64, op := Op.pick (Operand.tmp 59) (Operand.const (Value.bool true)) (Operand.tmp 63), type := 4, pos := "merkle.go:100", after := #[{ on := 13, ground := Ground.data }, { on := 17, ground := Ground.data }], guard := none }) (v := ?v18) rfl (by kernel_rfl) (by kernel_rfl) (by kernel_rfl) (fun _ _ _ h => h) (Or.inl ⟨by rfl, ?y18⟩) hHeld ?r18
  case y18 => (intro w hSw; (try dsimp only at hSw); go_simp) <;> with_reducible rfl
  try simp only [Act.put, List.setIfInBounds_toArray, List.set_cons_zero, List.set_cons_succ]
  refine wpAnyH_done (by kernel_rfl) ?_ _
  have hX1 := hX.later hb1
  obtain ⟨x0, x1, x2, x3⟩ := hX1.cells
  have HF : Hid (FB w w2.heap.size lo hi (.slice p ins.length c) (.slice q outs.length d) 0 (w2.alloc (.cells #[.int .i64 0] 3))) := by
    obtain ⟨y0, y1, y2, y3, y4, y5⟩ := hX1.later ((Below.refl w2.heap.size w2).alloc (Nat.le_refl _) (.cells #[.int .i64 0] 3))
    exact ⟨y0, y1, y2, y3, heap_alloc_new w2 _, hX1.2.2.2.2.2, y4⟩
  clear hsP hsQ hCt v0 v1 v2 v3 hb1 hb1' hX hX1 hi' ho' hHeld hT
  go_wp2_with fail
  refine (hR _ _ HF.out).mono ?_
  rintro x w5 ⟨p2, c2, rfl, k2, hb2⟩
  have hC := clone_any _ F w5 k2 hlen
  clear hR k2 x0 x1 x2 x3 HF
  go_wp2_with fail
  refine hC.mono ?_
  rintro x w6 ⟨p3, c3, rfl, k3, hb3⟩
  have hB3 := hb2.trans (hb3.mono hb2.size)
  clear hC hb2 hb3
  go_wp2
  go_ret2
  exact ⟨p3, c3, rfl, k3, hB3⟩

end Go.Proofs.YtichffdkihifpaaDoor
