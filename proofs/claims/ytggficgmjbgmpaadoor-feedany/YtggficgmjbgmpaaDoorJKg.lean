/- What this text proves: the walk of merkle.Fold over this program where all is right, and all digests are inside. What this text proves: the walk of merkle.Fold over this program where all is right, and some digests are outside. What this text proves: laws for a walk, over any program: a copy of a longer slice of bytes over a whole row that the call owns; a copy of any slice of bytes into such a row. What this text proves: the walk of the statements' sized (annalslaw11), and merkle.Fold in one word, over this program. -/
import Derived.Test.YtggficgmjbgmpaaDoorJKf
import Derived.Test.YtggficgmjbgmpaaDoorOwn
import Derived.Test.YtggficgmjbgmpaaDoorJKq
namespace Go.Proofs.YtggficgmjbgmpaaDoor
open Go.RowKit

set_option maxRecDepth 100000 in
set_option maxHeartbeats 600000 in
theorem fold_all (size : Int) (n lo hi C : Nat) (iv ov : Value) (ins outs : List (List UInt8)) (w : World) (hi' : PA w iv ins) (ho' : PA w ov outs) (hhi : lo + ins.length = hi) (hb : outs.length ≤ 140737488355328) (h1 : hi ≤ n) (h2 : n ≤ 1048576) (h3 : 1 ≤ size) (h4 : size ≤ 32) (hC : Hid (cntF (n : Int) (lo : Int) (hi : Int) = C)) (hne : outs.length = C) (ha : allLen size ins = true) (hb2 : allLen size outs = true) (hT : Tabs w) (hln : ins.length = n) :
    Calls Tryd.prog 41 #[.int .i64 size, .int .i64 (n : Int), .int .i64 (lo : Int), iv, ov] w fun x w' => ∃ p c, x = .returned (.tuple #[.slice p (rootF size ins).length c, .int .i64 0]) ∧ HB w' (.slice p (rootF size ins).length c) (rootF size ins) ∧ Below w.heap.size w w' := by
  have hS1 := fun W hp => sizedK_any size iv ins W hp (by omega)
  have hS2 := fun W hp => sizedK_any size ov outs W hp hb
  obtain ⟨p, c, hiv⟩ := hi'.shape
  obtain ⟨q, d, hov⟩ := ho'.shape
  have hCt := fun w => count_any (n : Int) (lo : Int) (hi : Int) w
  rw [hC.out] at hCt
  have e1 : (lo : Int) + (ins.length : Int) = (hi : Int) := by omega
  have d3 : decide ((n : Int) - (lo : Int) < (ins.length : Int)) = false := by simp; omega
  have d4 : decide ((lo : Int) < 0) = false := by simp
  have d5 : decide (n < lo) = false := by simp; omega
  have d6 : decide ((1048576 : Int) < (n : Int)) = false := by simp; omega
  have d7 : decide (size < 1) = false := by simp; omega
  have d8 : decide (32 < size) = false := by simp; omega
  have d1 : ((outs.length : Int) != (C : Int)) = false := by simp; omega
  have hlen : (rootF size ins).length ≤ 140737488355328 := rootF_len size _ (by decide) _ (by omega) fun l hl => by
    unfold allLen at ha
    have := (List.all_eq_true.1 ha) l hl
    simp only [decide_eq_true_eq] at this
    omega
  have hR := fun W (hB : Below w.heap.size w W) => root_any size iv ins W (hi'.later hB) (hT.later hB) (by omega) hlen
  generalize rootF size ins = F at *
  rw [ha] at hS1
  rw [hb2] at hS2
  have dn : ((ins.length : Int) == (n : Int)) = true := by simp; omega
  subst hiv
  subst hov
  obtain ⟨V, hV⟩ : ∃ V, V = (((w.alloc (.cells #[.int .i64 (lo : Int)] 3)).alloc (.cells #[.slice p ins.length c] 33)).alloc (.cells #[.slice q outs.length d] 33)).alloc (.cells #[.int .i64 (hi : Int)] 3) := ⟨_, rfl⟩
  have hX := BX.made w lo hi (.slice p ins.length c) (.slice q outs.length d)
  rw [← hV] at hX
  clear hhi hC hne ha hb2 hlen hln
  go_enter Tryd.func41, Tryd.ntmps41
  go_wp2_with fail
  rw [← hV]
  clear hV e1
  obtain ⟨v0, v1, v2, v3⟩ := hX.cells
  have hsP := fun W (hB : Below V.heap.size V W) => hS1 W (hi'.later (hX.later hB).2.2.2.2.1)
  have hsQ := fun W (hB : Below V.heap.size V W) => hS2 W (ho'.later (hX.later hB).2.2.2.2.1)
  clear hS1 hS2
  have hHeld := (hX.later ((Below.refl _ V).drew)).cells
  refine wp_region_heldN (by kernel_rfl) (fun w' => w'.cell? ⟨w.heap.size, 0, none⟩ = some (.int .i64 (lo : Int)) ∧ w'.cell? ⟨w.heap.size + 1, 0, none⟩ = some (.slice p ins.length c) ∧ w'.cell? ⟨w.heap.size + 1 + 1, 0, none⟩ = some (.slice q outs.length d) ∧ w'.cell? ⟨w.heap.size + 1 + 1 + 1, 0, none⟩ = some (.int .i64 (hi : Int))) 19 rfl ?_
  refine wpAnyH_take (i := 0) (oi := { dst := some 46, op := Op.load 33 (Operand.tmp 9), type := 33, pos := "merkle.go:100", after := #[], guard := none }) (v := ?v0) rfl (by kernel_rfl) (by kernel_rfl) (by kernel_rfl) (fun _ _ _ h => h) (Or.inl ⟨by rfl, ?y0⟩) hHeld ?r0
  case y0 => (intro w hSw; (try dsimp only at hSw); go_simp) <;> with_reducible rfl
  try simp only [Act.put, List.setIfInBounds_toArray, List.set_cons_zero, List.set_cons_succ]
  refine wpAnyH_take (i := 1) (oi := { dst := some 47, op := Op.call { callee := Callee.builtin Builtin.len, args := #[Operand.tmp 46], argTypes := #[33] }, type := 3, pos := "merkle.go:100", after := #[{ on := 0, ground := Ground.data }], guard := none }) (v := ?v1) rfl (by kernel_rfl) (by kernel_rfl) (by kernel_rfl) (fun _ _ _ h => h) (Or.inl ⟨by rfl, ?y1⟩) hHeld ?r1
  case y1 => (intro w hSw; (try dsimp only at hSw); go_simp) <;> with_reducible rfl
  try simp only [Act.put, List.setIfInBounds_toArray, List.set_cons_zero, List.set_cons_succ]
  refine wpAnyH_take (i := 2) (oi := { dst := some 48, op := Op.move (Operand.tmp 1), type := 3, pos := "merkle.go:100", after := #[], guard := none }) (v := ?v2) rfl (by kernel_rfl) (by kernel_rfl) (by kernel_rfl) (fun _ _ _ h => h) (Or.inl ⟨by rfl, ?y2⟩) hHeld ?r2
  case y2 => (intro w hSw; (try dsimp only at hSw); go_simp) <;> with_reducible rfl
  try simp only [Act.put, List.setIfInBounds_toArray, List.set_cons_zero, List.set_cons_succ]
  refine wpAnyH_take (i := 3) (oi := { dst := some 49, op := Op.load 3 (Operand.tmp 7), type := 3, pos := "merkle.go:100", after := #[], guard := none }) (v := ?v3) rfl (by kernel_rfl) (by kernel_rfl) (by kernel_rfl) (fun _ _ _ h => h) (Or.inl ⟨by rfl, ?y3⟩) hHeld ?r3
  case y3 => (intro w hSw; (try dsimp only at hSw); go_simp) <;> with_reducible rfl
  try simp only [Act.put, List.setIfInBounds_toArray, List.set_cons_zero, List.set_cons_succ]
  refine wpAnyH_take (i := 4) (oi := { dst := some 50, op := Op.load 3 (Operand.tmp 12), type := 3, pos := "merkle.go:100", after := #[], guard := none }) (v := ?v4) rfl (by kernel_rfl) (by kernel_rfl) (by kernel_rfl) (fun _ _ _ h => h) (Or.inl ⟨by rfl, ?y4⟩) hHeld ?r4
  case y4 => (intro w hSw; (try dsimp only at hSw); go_simp) <;> with_reducible rfl
  try simp only [Act.put, List.setIfInBounds_toArray, List.set_cons_zero, List.set_cons_succ]
  refine wpAnyH_ready (rs := [5]) (by kernel_rfl) (by simp) ?_
  refine AllReadyH.cons (o := { dst := some 51, op := Op.call { callee := Callee.value (Operand.func 50), args := #[Operand.tmp 48, Operand.tmp 49, Operand.tmp 50], argTypes := #[3, 3, 3] }, type := 3, pos := "merkle.go:100", after := #[{ on := 2, ground := Ground.data }, { on := 3, ground := Ground.data }, { on := 4, ground := Ground.data }], guard := none }) rfl (fun K hK => ?_) AllReadyH.nil
  go_simp
  refine (hCt _).mono ?_
  rintro e w1 ⟨rfl, hb1'⟩
  have hb1 : Below V.heap.size V w1 := ((Below.refl _ V).drew).trans (hb1'.mono (by simp))
  replace hHeld := (hX.later hb1).cells
  refine hK.out _ _ ?_ (fun _ => ?_)
  · exact hHeld
  clear hK K
  try simp only [Act.put, List.setIfInBounds_toArray, List.set_cons_zero, List.set_cons_succ]
  refine wpAnyH_take (i := 6) (oi := { dst := some 52, op := Op.binOp BinOp.neq 3 (Operand.tmp 47) (Operand.tmp 51) 3, type := 4, pos := "merkle.go:100", after := #[{ on := 1, ground := Ground.data }, { on := 5, ground := Ground.data }], guard := none }) (v := ?v6) rfl (by kernel_rfl) (by kernel_rfl) (by kernel_rfl) (fun _ _ _ h => h) (Or.inl ⟨by rfl, ?y6⟩) hHeld ?r6
  case y6 => (intro w hSw; (try dsimp only at hSw); go_simp) <;> with_reducible rfl
  try simp only [Act.put, List.setIfInBounds_toArray, List.set_cons_zero, List.set_cons_succ]
  refine wpAnyH_take (i := 7) (oi := { dst := some 53, op := Op.move (Operand.tmp 52), type := 4, pos := "merkle.go:100", after := #[{ on := 6, ground := Ground.data }, { on := 5, ground := Ground.chain }], guard := none }) (v := ?v7) rfl (by kernel_rfl) (by kernel_rfl) (by kernel_rfl) (fun _ _ _ h => h) (Or.inl ⟨by rfl, ?y7⟩) hHeld ?r7
  case y7 => (intro w hSw; (try dsimp only at hSw); go_simp) <;> with_reducible rfl
  try simp only [Act.put, List.setIfInBounds_toArray, List.set_cons_zero, List.set_cons_succ]
  refine wpAnyH_take (i := 8) (oi := { dst := some 54, op := Op.move (Operand.tmp 0), type := 3, pos := "merkle.go:100", after := #[{ on := 7, ground := Ground.guard }], guard := some (7, false) }) (v := ?v8) rfl (by kernel_rfl) (by kernel_rfl) (by kernel_rfl) (fun _ _ _ h => h) (Or.inl ⟨by rfl, ?y8⟩) hHeld ?r8
  case y8 => (intro w hSw; (try dsimp only at hSw); go_simp) <;> with_reducible rfl
  try simp only [Act.put, List.setIfInBounds_toArray, List.set_cons_zero, List.set_cons_succ]
  refine wpAnyH_take (i := 9) (oi := { dst := some 55, op := Op.load 33 (Operand.tmp 8), type := 33, pos := "merkle.go:100", after := #[{ on := 7, ground := Ground.guard }], guard := some (7, false) }) (v := ?v9) rfl (by kernel_rfl) (by kernel_rfl) (by kernel_rfl) (fun _ _ _ h => h) (Or.inl ⟨by rfl, ?y9⟩) hHeld ?r9
  case y9 => (intro w hSw; (try dsimp only at hSw); go_simp) <;> with_reducible rfl
  try simp only [Act.put, List.setIfInBounds_toArray, List.set_cons_zero, List.set_cons_succ]
  refine wpAnyH_ready (rs := [10]) (by kernel_rfl) (by simp) ?_
  refine AllReadyH.cons (o := { dst := some 56, op := Op.call { callee := Callee.value (Operand.func 51), args := #[Operand.tmp 54, Operand.tmp 55], argTypes := #[3, 33] }, type := 4, pos := "merkle.go:100", after := #[{ on := 8, ground := Ground.data }, { on := 9, ground := Ground.data }, { on := 7, ground := Ground.chain }, { on := 7, ground := Ground.guard }], guard := some (7, false) }) rfl (fun K hK => ?_) AllReadyH.nil
  go_simp
  refine (hsP _ hb1).mono ?_
  rintro e w2 ⟨rfl, hw⟩
  subst hw
  refine hK.out _ _ ?_ (fun _ => ?_)
  · exact hHeld
  clear hK K
  try simp only [Act.put, List.setIfInBounds_toArray, List.set_cons_zero, List.set_cons_succ]
  refine wpAnyH_take (i := 11) (oi := { dst := some 57, op := Op.unOp UnOp.not 4 (Operand.tmp 56), type := 4, pos := "merkle.go:100", after := #[{ on := 10, ground := Ground.data }, { on := 7, ground := Ground.guard }], guard := some (7, false) }) (v := ?v11) rfl (by kernel_rfl) (by kernel_rfl) (by kernel_rfl) (fun _ _ _ h => h) (Or.inl ⟨by rfl, ?y11⟩) hHeld ?r11
  case y11 => (intro w hSw; (try dsimp only at hSw); go_simp) <;> with_reducible rfl
  try simp only [Act.put, List.setIfInBounds_toArray, List.set_cons_zero, List.set_cons_succ]
  refine wpAnyH_take (i := 12) (oi := { dst := some 58, op := Op.pick (Operand.tmp 53) (Operand.const (Value.bool true)) (Operand.tmp 57), type := 4, pos := "merkle.go:100", after := #[{ on := 7, ground := Ground.data }, { on := 11, ground := Ground.data }], guard := none }) (v := ?v12) rfl (by kernel_rfl) (by kernel_rfl) (by kernel_rfl) (fun _ _ _ h => h) (Or.inl ⟨by rfl, ?y12⟩) hHeld ?r12
  case y12 => (intro w hSw; (try dsimp only at hSw); go_simp) <;> with_reducible rfl
  try simp only [Act.put, List.setIfInBounds_toArray, List.set_cons_zero, List.set_cons_succ]
  refine wpAnyH_take (i := 13) (oi := { dst := some 59, op := Op.move (Operand.tmp 58), type := 4, pos := "merkle.go:100", after := #[{ on := 12, ground := Ground.data }, { on := 10, ground := Ground.chain }], guard := none }) (v := ?v13) rfl (by kernel_rfl) (by kernel_rfl) (by kernel_rfl) (fun _ _ _ h => h) (Or.inl ⟨by rfl, ?y13⟩) hHeld ?r13
  case y13 => (intro w hSw; (try dsimp only at hSw); go_simp) <;> with_reducible rfl
  try simp only [Act.put, List.setIfInBounds_toArray, List.set_cons_zero, List.set_cons_succ]
  refine wpAnyH_take (i := 14) (oi := { dst := some 60, op := Op.move (Operand.tmp 0), type := 3, pos := "merkle.go:100", after := #[{ on := 13, ground := Ground.guard }], guard := some (13, false) }) (v := ?v14) rfl (by kernel_rfl) (by kernel_rfl) (by kernel_rfl) (fun _ _ _ h => h) (Or.inl ⟨by rfl, ?y14⟩) hHeld ?r14
  case y14 => (intro w hSw; (try dsimp only at hSw); go_simp) <;> with_reducible rfl
  try simp only [Act.put, List.setIfInBounds_toArray, List.set_cons_zero, List.set_cons_succ]
  refine wpAnyH_take (i := 15) (oi := { dst := some 61, op := Op.load 33 (Operand.tmp 9), type := 33, pos := "merkle.go:100", after := #[{ on := 13, ground := Ground.guard }], guard := some (13, false) }) (v := ?v15) rfl (by kernel_rfl) (by kernel_rfl) (by kernel_rfl) (fun _ _ _ h => h) (Or.inl ⟨by rfl, ?y15⟩) hHeld ?r15
  case y15 => (intro w hSw; (try dsimp only at hSw); go_simp) <;> with_reducible rfl
  try simp only [Act.put, List.setIfInBounds_toArray, List.set_cons_zero, List.set_cons_succ]
  refine wpAnyH_ready (rs := [16]) (by kernel_rfl) (by simp) ?_
  refine AllReadyH.cons (o := { dst := some 62, op := Op.call { callee := Callee.value (Operand.func 51), args := #[Operand.tmp 60, Operand.tmp 61], argTypes := #[3, 33] }, type := 4, pos := "merkle.go:100", after := #[{ on := 14, ground := Ground.data }, { on := 15, ground := Ground.data }, { on := 13, ground := Ground.chain }, { on := 13, ground := Ground.guard }], guard := some (13, false) }) rfl (fun K hK => ?_) AllReadyH.nil
  go_simp
  refine (hsQ _ hb1).mono ?_
  rintro e w2 ⟨rfl, hw⟩
  subst hw
  refine hK.out _ _ ?_ (fun _ => ?_)
  · exact hHeld
  clear hK K
  try simp only [Act.put, List.setIfInBounds_toArray, List.set_cons_zero, List.set_cons_succ]
  refine wpAnyH_take (i := 17) (oi := { dst := some 63, op := Op.unOp UnOp.not 4 (Operand.tmp 62), type := 4, pos := "merkle.go:100", after := #[{ on := 16, ground := Ground.data }, { on := 13, ground := Ground.guard }], guard := some (13, false) }) (v := ?v17) rfl (by kernel_rfl) (by kernel_rfl) (by kernel_rfl) (fun _ _ _ h => h) (Or.inl ⟨by rfl, ?y17⟩) hHeld ?r17
  case y17 => (intro w hSw; (try dsimp only at hSw); go_simp) <;> with_reducible rfl
  try simp only [Act.put, List.setIfInBounds_toArray, List.set_cons_zero, List.set_cons_succ]
  refine wpAnyH_take (i := 18) (oi := { dst := some 64, op := Op.pick (Operand.tmp 59) (Operand.const (Value.bool true)) (Operand.tmp 63), type := 4, pos := "merkle.go:100", after := #[{ on := 13, ground := Ground.data }, { on := 17, ground := Ground.data }], guard := none }) (v := ?v18) rfl (by kernel_rfl) (by kernel_rfl) (by kernel_rfl) (fun _ _ _ h => h) (Or.inl ⟨by rfl, ?y18⟩) hHeld ?r18
  case y18 => (intro w hSw; (try dsimp only at hSw); go_simp) <;> with_reducible rfl
  try simp only [Act.put, List.setIfInBounds_toArray, List.set_cons_zero, List.set_cons_succ]
  refine wpAnyH_done (by kernel_rfl) ?_ _
  have hX1 := hX.later hb1
  obtain ⟨x0, x1, x2, x3⟩ := hX1.cells
  have hB := hX1.2.2.2.2.1
  clear hsP hsQ hCt v0 v1 v2 v3 hb1 hb1' hX hX1 hi' ho' hHeld hT
  go_wp2_with fail
  refine (hR _ hB).mono ?_
  rintro x w2 ⟨p2, c2, rfl, k2, hb2, _⟩
  have hB2 := hB.trans (hb2.mono hB.size)
  clear hR hB hb2 x0 x1 x2 x3
  go_wp2
  go_ret2
  exact ⟨p2, c2, rfl, k2, hB2⟩

end Go.Proofs.YtggficgmjbgmpaaDoor

namespace Go.Proofs.YtggficgmjbgmpaaDoor
open Go.RowKit

set_option maxRecDepth 100000 in
set_option maxHeartbeats 600000 in
theorem fold_part (size : Int) (n lo hi C : Nat) (iv ov : Value) (ins outs : List (List UInt8)) (w : World) (hi' : PA w iv ins) (ho' : PA w ov outs) (hhi : lo + ins.length = hi) (hb : outs.length ≤ 140737488355328) (h1 : hi ≤ n) (h2 : n ≤ 1048576) (h3 : 1 ≤ size) (h4 : size ≤ 32) (hC : Hid (cntF (n : Int) (lo : Int) (hi : Int) = C)) (hne : outs.length = C) (ha : allLen size ins = true) (hb2 : allLen size outs = true) (hT : Tabs w) (hln : ¬ ins.length = n) :
    Calls Tryd.prog 41 #[.int .i64 size, .int .i64 (n : Int), .int .i64 (lo : Int), iv, ov] w fun x w' => ∃ p c, x = .returned (.tuple #[.slice p (fldF size n lo hi ins outs).length c, .int .i64 0]) ∧ HB w' (.slice p (fldF size n lo hi ins outs).length c) (fldF size n lo hi ins outs) ∧ Below w.heap.size w w' := by
  have hS1 := fun W hp => sizedK_any size iv ins W hp (by omega)
  have hS2 := fun W hp => sizedK_any size ov outs W hp hb
  obtain ⟨p, c, hiv⟩ := hi'.shape
  obtain ⟨q, d, hov⟩ := ho'.shape
  have hCt := fun w => count_any (n : Int) (lo : Int) (hi : Int) w
  rw [hC.out] at hCt
  have e1 : (lo : Int) + (ins.length : Int) = (hi : Int) := by omega
  have d3 : decide ((n : Int) - (lo : Int) < (ins.length : Int)) = false := by simp; omega
  have d4 : decide ((lo : Int) < 0) = false := by simp
  have d5 : decide (n < lo) = false := by simp; omega
  have d6 : decide ((1048576 : Int) < (n : Int)) = false := by simp; omega
  have d7 : decide (size < 1) = false := by simp; omega
  have d8 : decide (32 < size) = false := by simp; omega
  have d1 : ((outs.length : Int) != (C : Int)) = false := by simp; omega
  have hlen : (fldF size n lo hi ins outs).length ≤ 140737488355328 := Nat.le_trans (ovF_len size 32 (Nat.le_refl _) _ (fun s b e l h => knF_len ha hb2 h4 s b e l h) 20 0 n 0) (by decide)
  have hcn : outs.length = (wo lo hi 20 0 n).length := by
    rw [hne, ← hC.out]
    unfold cntF
    rw [if_pos (by omega)]
    simp
  have hR : ∀ g W, FB w g lo hi iv ov 0 W → Calls Tryd.prog 47 #[.int .i64 size, .int .i64 0, .int .i64 (n : Int), .func (.func 52) #[] #[.pointer (some ⟨w.heap.size, 0, none⟩), .pointer (some ⟨w.heap.size + 1 + 1 + 1, 0, none⟩), .pointer (some ⟨g, 0, none⟩), .pointer (some ⟨w.heap.size + 1 + 1, 0, none⟩), .pointer (some ⟨w.heap.size + 1, 0, none⟩)]] W fun x w' => ∃ p c, x = .returned (.slice p (fldF size n lo hi ins outs).length c) ∧ HB w' (.slice p (fldF size n lo hi ins outs).length c) (fldF size n lo hi ins outs) ∧ Below w.heap.size w w' := fun g W hB => fold_over size n lo hi g iv ov ins outs w W hT hi' ho' hhi.symm hb h1 h2 (by omega) hcn hB
  generalize fldF size n lo hi ins outs = F at *
  rw [ha] at hS1
  rw [hb2] at hS2
  have dn : ((ins.length : Int) == (n : Int)) = false := by simp; omega
  subst hiv
  subst hov
  obtain ⟨V, hV⟩ : ∃ V, V = (((w.alloc (.cells #[.int .i64 (lo : Int)] 3)).alloc (.cells #[.slice p ins.length c] 33)).alloc (.cells #[.slice q outs.length d] 33)).alloc (.cells #[.int .i64 (hi : Int)] 3) := ⟨_, rfl⟩
  have hX := BX.made w lo hi (.slice p ins.length c) (.slice q outs.length d)
  rw [← hV] at hX
  clear hhi hC hne ha hb2 hln hcn
  go_enter Tryd.func41, Tryd.ntmps41
  go_wp2_with fail
  rw [← hV]
  clear hV e1
  obtain ⟨v0, v1, v2, v3⟩ := hX.cells
  have hsP := fun W (hB : Below V.heap.size V W) => hS1 W (hi'.later (hX.later hB).2.2.2.2.1)
  have hsQ := fun W (hB : Below V.heap.size V W) => hS2 W (ho'.later (hX.later hB).2.2.2.2.1)
  clear hS1 hS2
  have hHeld := (hX.later ((Below.refl _ V).drew)).cells
  refine wp_region_heldN (by kernel_rfl) (fun w' => w'.cell? ⟨w.heap.size, 0, none⟩ = some (.int .i64 (lo : Int)) ∧ w'.cell? ⟨w.heap.size + 1, 0, none⟩ = some (.slice p ins.length c) ∧ w'.cell? ⟨w.heap.size + 1 + 1, 0, none⟩ = some (.slice q outs.length d) ∧ w'.cell? ⟨w.heap.size + 1 + 1 + 1, 0, none⟩ = some (.int .i64 (hi : Int))) 19 rfl ?_
  refine wpAnyH_take (i := 0) (oi := { dst := some 46, op := Op.load 33 (Operand.tmp 9), type := 33, pos := "merkle.go:100", after := #[], guard := none }) (v := ?v0) rfl (by kernel_rfl) (by kernel_rfl) (by kernel_rfl) (fun _ _ _ h => h) (Or.inl ⟨by rfl, ?y0⟩) hHeld ?r0
  case y0 => (intro w hSw; (try dsimp only at hSw); go_simp) <;> with_reducible rfl
  try simp only [Act.put, List.setIfInBounds_toArray, List.set_cons_zero, List.set_cons_succ]
  refine wpAnyH_take (i := 1) (oi := { dst := some 47, op := Op.call { callee := Callee.builtin Builtin.len, args := #[Operand.tmp 46], argTypes := #[33] }, type := 3, pos := "merkle.go:100", after := #[{ on := 0, ground := Ground.data }], guard := none }) (v := ?v1) rfl (by kernel_rfl) (by kernel_rfl) (by kernel_rfl) (fun _ _ _ h => h) (Or.inl ⟨by rfl, ?y1⟩) hHeld ?r1
  case y1 => (intro w hSw; (try dsimp only at hSw); go_simp) <;> with_reducible rfl
  try simp only [Act.put, List.setIfInBounds_toArray, List.set_cons_zero, List.set_cons_succ]
  refine wpAnyH_take (i := 2) (oi := { dst := some 48, op := Op.move (Operand.tmp 1), type := 3, pos := "merkle.go:100", after := #[], guard := none }) (v := ?v2) rfl (by kernel_rfl) (by kernel_rfl) (by kernel_rfl) (fun _ _ _ h => h) (Or.inl ⟨by rfl, ?y2⟩) hHeld ?r2
  case y2 => (intro w hSw; (try dsimp only at hSw); go_simp) <;> with_reducible rfl
  try simp only [Act.put, List.setIfInBounds_toArray, List.set_cons_zero, List.set_cons_succ]
  refine wpAnyH_take (i := 3) (oi := { dst := some 49, op := Op.load 3 (Operand.tmp 7), type := 3, pos := "merkle.go:100", after := #[], guard := none }) (v := ?v3) rfl (by kernel_rfl) (by kernel_rfl) (by kernel_rfl) (fun _ _ _ h => h) (Or.inl ⟨by rfl, ?y3⟩) hHeld ?r3
  case y3 => (intro w hSw; (try dsimp only at hSw); go_simp) <;> with_reducible rfl
  try simp only [Act.put, List.setIfInBounds_toArray, List.set_cons_zero, List.set_cons_succ]
  refine wpAnyH_take (i := 4) (oi := { dst := some 50, op := Op.load 3 (Operand.tmp 12), type := 3, pos := "merkle.go:100", after := #[], guard := none }) (v := ?v4) rfl (by kernel_rfl) (by kernel_rfl) (by kernel_rfl) (fun _ _ _ h => h) (Or.inl ⟨by rfl, ?y4⟩) hHeld ?r4
  case y4 => (intro w hSw; (try dsimp only at hSw); go_simp) <;> with_reducible rfl
  try simp only [Act.put, List.setIfInBounds_toArray, List.set_cons_zero, List.set_cons_succ]
  refine wpAnyH_ready (rs := [5]) (by kernel_rfl) (by simp) ?_
  refine AllReadyH.cons (o := { dst := some 51, op := Op.call { callee := Callee.value (Operand.func 50), args := #[Operand.tmp 48, Operand.tmp 49, Operand.tmp 50], argTypes := #[3, 3, 3] }, type := 3, pos := "merkle.go:100", after := #[{ on := 2, ground := Ground.data }, { on := 3, ground := Ground.data }, { on := 4, ground := Ground.data }], guard := none }) rfl (fun K hK => ?_) AllReadyH.nil
  go_simp
  refine (hCt _).mono ?_
  rintro e w1 ⟨rfl, hb1'⟩
  have hb1 : Below V.heap.size V w1 := ((Below.refl _ V).drew).trans (hb1'.mono (by simp))
  replace hHeld := (hX.later hb1).cells
  refine hK.out _ _ ?_ (fun _ => ?_)
  · exact hHeld
  clear hK K
  try simp only [Act.put, List.setIfInBounds_toArray, List.set_cons_zero, List.set_cons_succ]
  refine wpAnyH_take (i := 6) (oi := { dst := some 52, op := Op.binOp BinOp.neq 3 (Operand.tmp 47) (Operand.tmp 51) 3, type := 4, pos := "merkle.go:100", after := #[{ on := 1, ground := Ground.data }, { on := 5, ground := Ground.data }], guard := none }) (v := ?v6) rfl (by kernel_rfl) (by kernel_rfl) (by kernel_rfl) (fun _ _ _ h => h) (Or.inl ⟨by rfl, ?y6⟩) hHeld ?r6
  case y6 => (intro w hSw; (try dsimp only at hSw); go_simp) <;> with_reducible rfl
  try simp only [Act.put, List.setIfInBounds_toArray, List.set_cons_zero, List.set_cons_succ]
  refine wpAnyH_take (i := 7) (oi := { dst := some 53, op := Op.move (Operand.tmp 52), type := 4, pos := "merkle.go:100", after := #[{ on := 6, ground := Ground.data }, { on := 5, ground := Ground.chain }], guard := none }) (v := ?v7) rfl (by kernel_rfl) (by kernel_rfl) (by kernel_rfl) (fun _ _ _ h => h) (Or.inl ⟨by rfl, ?y7⟩) hHeld ?r7
  case y7 => (intro w hSw; (try dsimp only at hSw); go_simp) <;> with_reducible rfl
  try simp only [Act.put, List.setIfInBounds_toArray, List.set_cons_zero, List.set_cons_succ]
  refine wpAnyH_take (i := 8) (oi := { dst := some 54, op := Op.move (Operand.tmp 0), type := 3, pos := "merkle.go:100", after := #[{ on := 7, ground := Ground.guard }], guard := some (7, false) }) (v := ?v8) rfl (by kernel_rfl) (by kernel_rfl) (by kernel_rfl) (fun _ _ _ h => h) (Or.inl ⟨by rfl, ?y8⟩) hHeld ?r8
  case y8 => (intro w hSw; (try dsimp only at hSw); go_simp) <;> with_reducible rfl
  try simp only [Act.put, List.setIfInBounds_toArray, List.set_cons_zero, List.set_cons_succ]
  refine wpAnyH_take (i := 9) (oi := { dst := some 55, op := Op.load 33 (Operand.tmp 8), type := 33, pos := "merkle.go:100", after := #[{ on := 7, ground := Ground.guard }], guard := some (7, false) }) (v := ?v9) rfl (by kernel_rfl) (by kernel_rfl) (by kernel_rfl) (fun _ _ _ h => h) (Or.inl ⟨by rfl, ?y9⟩) hHeld ?r9
  case y9 => (intro w hSw; (try dsimp only at hSw); go_simp) <;> with_reducible rfl
  try simp only [Act.put, List.setIfInBounds_toArray, List.set_cons_zero, List.set_cons_succ]
  refine wpAnyH_ready (rs := [10]) (by kernel_rfl) (by simp) ?_
  refine AllReadyH.cons (o := { dst := some 56, op := Op.call { callee := Callee.value (Operand.func 51), args := #[Operand.tmp 54, Operand.tmp 55], argTypes := #[3, 33] }, type := 4, pos := "merkle.go:100", after := #[{ on := 8, ground := Ground.data }, { on := 9, ground := Ground.data }, { on := 7, ground := Ground.chain }, { on := 7, ground := Ground.guard }], guard := some (7, false) }) rfl (fun K hK => ?_) AllReadyH.nil
  go_simp
  refine (hsP _ hb1).mono ?_
  rintro e w2 ⟨rfl, hw⟩
  subst hw
  refine hK.out _ _ ?_ (fun _ => ?_)
  · exact hHeld
  clear hK K
  try simp only [Act.put, List.setIfInBounds_toArray, List.set_cons_zero, List.set_cons_succ]
  refine wpAnyH_take (i := 11) (oi := { dst := some 57, op := Op.unOp UnOp.not 4 (Operand.tmp 56), type := 4, pos := "merkle.go:100", after := #[{ on := 10, ground := Ground.data }, { on := 7, ground := Ground.guard }], guard := some (7, false) }) (v := ?v11) rfl (by kernel_rfl) (by kernel_rfl) (by kernel_rfl) (fun _ _ _ h => h) (Or.inl ⟨by rfl, ?y11⟩) hHeld ?r11
  case y11 => (intro w hSw; (try dsimp only at hSw); go_simp) <;> with_reducible rfl
  try simp only [Act.put, List.setIfInBounds_toArray, List.set_cons_zero, List.set_cons_succ]
  refine wpAnyH_take (i := 12) (oi := { dst := some 58, op := Op.pick (Operand.tmp 53) (Operand.const (Value.bool true)) (Operand.tmp 57), type := 4, pos := "merkle.go:100", after := #[{ on := 7, ground := Ground.data }, { on := 11, ground := Ground.data }], guard := none }) (v := ?v12) rfl (by kernel_rfl) (by kernel_rfl) (by kernel_rfl) (fun _ _ _ h => h) (Or.inl ⟨by rfl, ?y12⟩) hHeld ?r12
  case y12 => (intro w hSw; (try dsimp only at hSw); go_simp) <;> with_reducible rfl
  try simp only [Act.put, List.setIfInBounds_toArray, List.set_cons_zero, List.set_cons_succ]
  refine wpAnyH_take (i := 13) (oi := { dst := some 59, op := Op.move (Operand.tmp 58), type := 4, pos := "merkle.go:100", after := #[{ on := 12, ground := Ground.data }, { on := 10, ground := Ground.chain }], guard := none }) (v := ?v13) rfl (by kernel_rfl) (by kernel_rfl) (by kernel_rfl) (fun _ _ _ h => h) (Or.inl ⟨by rfl, ?y13⟩) hHeld ?r13
  case y13 => (intro w hSw; (try dsimp only at hSw); go_simp) <;> with_reducible rfl
  try simp only [Act.put, List.setIfInBounds_toArray, List.set_cons_zero, List.set_cons_succ]
  refine wpAnyH_take (i := 14) (oi := { dst := some 60, op := Op.move (Operand.tmp 0), type := 3, pos := "merkle.go:100", after := #[{ on := 13, ground := Ground.guard }], guard := some (13, false) }) (v := ?v14) rfl (by kernel_rfl) (by kernel_rfl) (by kernel_rfl) (fun _ _ _ h => h) (Or.inl ⟨by rfl, ?y14⟩) hHeld ?r14
  case y14 => (intro w hSw; (try dsimp only at hSw); go_simp) <;> with_reducible rfl
  try simp only [Act.put, List.setIfInBounds_toArray, List.set_cons_zero, List.set_cons_succ]
  refine wpAnyH_take (i := 15) (oi := { dst := some 61, op := Op.load 33 (Operand.tmp 9), type := 33, pos := "merkle.go:100", after := #[{ on := 13, ground := Ground.guard }], guard := some (13, false) }) (v := ?v15) rfl (by kernel_rfl) (by kernel_rfl) (by kernel_rfl) (fun _ _ _ h => h) (Or.inl ⟨by rfl, ?y15⟩) hHeld ?r15
  case y15 => (intro w hSw; (try dsimp only at hSw); go_simp) <;> with_reducible rfl
  try simp only [Act.put, List.setIfInBounds_toArray, List.set_cons_zero, List.set_cons_succ]
  refine wpAnyH_ready (rs := [16]) (by kernel_rfl) (by simp) ?_
  refine AllReadyH.cons (o := { dst := some 62, op := Op.call { callee := Callee.value (Operand.func 51), args := #[Operand.tmp 60, Operand.tmp 61], argTypes := #[3, 33] }, type := 4, pos := "merkle.go:100", after := #[{ on := 14, ground := Ground.data }, { on := 15, ground := Ground.data }, { on := 13, ground := Ground.chain }, { on := 13, ground := Ground.guard }], guard := some (13, false) }) rfl (fun K hK => ?_) AllReadyH.nil
  go_simp
  refine (hsQ _ hb1).mono ?_
  rintro e w2 ⟨rfl, hw⟩
  subst hw
  refine hK.out _ _ ?_ (fun _ => ?_)
  · exact hHeld
  clear hK K
  try simp only [Act.put, List.setIfInBounds_toArray, List.set_cons_zero, List.set_cons_succ]
  refine wpAnyH_take (i := 17) (oi := { dst := some 63, op := Op.unOp UnOp.not 4 (Operand.tmp 62), type := 4, pos := "merkle.go:100", after := #[{ on := 16, ground := Ground.data }, { on := 13, ground := Ground.guard }], guard := some (13, false) }) (v := ?v17) rfl (by kernel_rfl) (by kernel_rfl) (by kernel_rfl) (fun _ _ _ h => h) (Or.inl ⟨by rfl, ?y17⟩) hHeld ?r17
  case y17 => (intro w hSw; (try dsimp only at hSw); go_simp) <;> with_reducible rfl
  try simp only [Act.put, List.setIfInBounds_toArray, List.set_cons_zero, List.set_cons_succ]
  refine wpAnyH_take (i := 18) (oi := { dst := some 64, op := Op.pick (Operand.tmp 59) (Operand.const (Value.bool true)) (Operand.tmp 63), type := 4, pos := "merkle.go:100", after := #[{ on := 13, ground := Ground.data }, { on := 17, ground := Ground.data }], guard := none }) (v := ?v18) rfl (by kernel_rfl) (by kernel_rfl) (by kernel_rfl) (fun _ _ _ h => h) (Or.inl ⟨by rfl, ?y18⟩) hHeld ?r18
  case y18 => (intro w hSw; (try dsimp only at hSw); go_simp) <;> with_reducible rfl
  try simp only [Act.put, List.setIfInBounds_toArray, List.set_cons_zero, List.set_cons_succ]
  refine wpAnyH_done (by kernel_rfl) ?_ _
  have hX1 := hX.later hb1
  obtain ⟨x0, x1, x2, x3⟩ := hX1.cells
  have HF : Hid (FB w w2.heap.size lo hi (.slice p ins.length c) (.slice q outs.length d) 0 (w2.alloc (.cells #[.int .i64 0] 3))) := by
    obtain ⟨y0, y1, y2, y3, y4, y5⟩ := hX1.later ((Below.refl w2.heap.size w2).alloc (Nat.le_refl _) (.cells #[.int .i64 0] 3))
    exact ⟨y0, y1, y2, y3, heap_alloc_new w2 _, hX1.2.2.2.2.2, y4⟩
  clear hsP hsQ hCt v0 v1 v2 v3 hb1 hb1' hX hX1 hi' ho' hHeld hT
  go_wp2_with fail
  refine (hR _ _ HF.out).mono ?_
  rintro x w5 ⟨p2, c2, rfl, k2, hb2⟩
  have hC := clone_any _ F w5 k2 hlen
  clear hR k2 x0 x1 x2 x3 HF
  go_wp2_with fail
  refine hC.mono ?_
  rintro x w6 ⟨p3, c3, rfl, k3, hb3⟩
  have hB3 := hb2.trans (hb3.mono hb2.size)
  clear hC hb2 hb3
  go_wp2
  go_ret2
  exact ⟨p3, c3, rfl, k3, hB3⟩

end Go.Proofs.YtggficgmjbgmpaaDoor

namespace Go.Proofs.YtggficgmjbgmpaaDoor
open Go.RowKit

/-- 'copy(dst, src)', dst a whole row of n bytes that the call owns, src of n bytes or more. -/
theorem wpList_copy_part {P : Program} {w : World} {ops : Array Oper} {rest : List Oper} {o : Oper} {a : Act} {Q : Exit → Act → World → Prop} (hgd : o.guard = none) (d s : Operand) (dT sT : TypeId)
    (ho : o.op = .call { callee := .builtin .copy, args := #[d, s], argTypes := #[dT, sT] }) (e : TypeId) (hu : P.underlying dT = some (.slice e)) (hsz : (P.info? e).map (·.size) = some 1)
    (g n : Nat) (p : Option Addr) (m c : Nat) (hd : a.eval d = .slice (some ⟨g, 0, none⟩) n n) (hs : a.eval s = .slice p m c)
    (base : Nat) (xs : List Value) (hown : w.ownsRow base e 1 (.slice (some ⟨g, 0, none⟩) n n) n xs) (l : List UInt8) (hsrc : HB w (.slice p m c) l) (hl : n ≤ m)
    (h : ∀ w', w'.ownsRow base e 1 (.slice (some ⟨g, 0, none⟩) n n) n (bcs (l.take n)) → w.grownBy w' (some g) → wpList P ops Q rest (a.put o.dst (goInt n)) w') : wpList P ops Q (o :: rest) a w := by
  have hm := hsrc.len.1
  rcases Nat.eq_zero_or_pos n with h0 | h0
  · subst h0
    refine wpList_copy_nothing hgd d s dT sT ho e hu hsz _ _ _ _ _ _ hd hs (Nat.min_zero m) (h w ?_ (World.grownBy.refl _ _))
    obtain ⟨q1, q2⟩ := hown
    obtain rfl : xs = [] := List.eq_nil_of_length_eq_zero (by simpa using q1)
    rw [List.take_zero]
    exact ⟨q1, q2⟩
  · obtain ⟨b, o', rfl, hc⟩ := hsrc.addr (by omega)
    obtain ⟨q1, q2⟩ := hown
    rcases q2 with ⟨q3, _⟩ | ⟨g', cap, cur, q3, hb, hg, hle, hmx, hcs, htk⟩
    · cases q3
    · simp only [Value.slice.injEq, Option.some.injEq, Addr.mk.injEq, and_true, true_and] at q3
      obtain ⟨rfl, rfl⟩ := q3
      have hlen : (bcs (l.take n)).length = n := by rw [bcs_length, List.length_take]; omega
      have hcells := (hsrc.front n hl).cells
      refine wpList_copy_own hgd d s dT sT ho e hu hsz g 0 n n ⟨b, o', none⟩ m c hd hs cur e hg (bcs (l.take n)) (by rw [hlen]; exact (Nat.min_eq_right hl).symm) hcells (by rw [hlen]; omega) (bcs_one _) ?_
      rw [hlen]
      refine h _ ⟨by rw [hlen]; omega, .inr ⟨g, n, _, rfl, hb, setRow_heap w g cur _ e (0, 0) hg, Nat.le_refl _, hmx, ?_, ?_⟩⟩ (grownBy_setRow w g _)
      · simp [hlen]
        omega
      · simp [hlen]

theorem wpList_copy_into {P : Program} {w : World} {ops : Array Oper} {rest : List Oper} {o : Oper} {a : Act} {Q : Exit → Act → World → Prop} (hgd : o.guard = none) (d s : Operand) (dT sT : TypeId)
    (ho : o.op = .call { callee := .builtin .copy, args := #[d, s], argTypes := #[dT, sT] }) (e : TypeId) (hu : P.underlying dT = some (.slice e)) (hsz : (P.info? e).map (·.size) = some 1)
    (g n : Nat) (p : Option Addr) (m c : Nat) (hd : a.eval d = .slice (some ⟨g, 0, none⟩) n n) (hs : a.eval s = .slice p m c)
    (base : Nat) (x : List UInt8) (hown : w.ownsRow base e 1 (.slice (some ⟨g, 0, none⟩) n n) n (bcs x)) (l : List UInt8) (hsrc : HB w (.slice p m c) l)
    (h : ∀ w' k, w'.ownsRow base e 1 (.slice (some ⟨g, 0, none⟩) n n) n (bcs (l.take n ++ x.drop l.length)) → w.grownBy w' (some g) → wpList P ops Q rest (a.put o.dst (goInt k)) w') : wpList P ops Q (o :: rest) a w := by
  have hm := hsrc.len.1
  have hx : x.length = n := by have := hown.1; rw [bcs_length] at this; omega
  rcases Nat.le_total m n with hle | hle
  · refine wpList_copy_front hgd d s dT sT ho e hu hsz g n p m c hd hs base (bcs x) hown l hsrc hle fun w' o' hg => h w' m ?_ hg
    rw [List.take_of_length_le (by omega), bcs_append, ← bcs_drop, ← hm]
    exact o'
  · refine wpList_copy_part hgd d s dT sT ho e hu hsz g n p m c hd hs base (bcs x) hown l hsrc hle fun w' o' hg => h w' n ?_ hg
    rw [List.drop_eq_nil_of_le (by omega), List.append_nil]
    exact o'

end Go.Proofs.YtggficgmjbgmpaaDoor

namespace Go.Proofs.YtggficgmjbgmpaaDoor
open Go.RowKit

/-- What Fold answers. -/
def foldR (size n lo : Int) (ins outs : List (List UInt8)) : List UInt8 × Int :=
  if 0 ≤ lo ∧ lo + (ins.length : Int) ≤ n ∧ n ≤ 1048576 ∧ 1 ≤ size ∧ size ≤ 32 then
    if outs.length = cntF n lo (lo + (ins.length : Int)) ∧ allLen size ins = true ∧ allLen size outs = true then
      if (ins.length : Int) = n then (rootF size ins, 0) else (fldF size n.toNat lo.toNat (lo.toNat + ins.length) ins outs, 0)
    else ([], 5)
  else ([], 1)

theorem fold_any (size n lo : Int) (iv ov : Value) (ins outs : List (List UInt8)) (w : World) (hT : Tabs w) (hi : PA w iv ins) (ho : PA w ov outs) (hn0 : -9223372036854775808 ≤ n) (hn1 : n ≤ 9223372036854775807) (hb : outs.length ≤ 140737488355328) :
    Calls Tryd.prog 41 #[.int .i64 size, .int .i64 n, .int .i64 lo, iv, ov] w fun x w' => ∃ p c, x = .returned (.tuple #[.slice p (foldR size n lo ins outs).1.length c, .int .i64 (foldR size n lo ins outs).2]) ∧ HB w' (.slice p (foldR size n lo ins outs).1.length c) (foldR size n lo ins outs).1 ∧ Below w.heap.size w w' := by
  unfold foldR
  by_cases h : 0 ≤ lo ∧ lo + (ins.length : Int) ≤ n ∧ n ≤ 1048576 ∧ 1 ≤ size ∧ size ≤ 32
  · rw [if_pos h]
    obtain ⟨h1, h2, h3, h4, h5⟩ := h
    obtain ⟨N, rfl⟩ : ∃ N : Nat, n = (N : Int) := ⟨n.toNat, by omega⟩
    obtain ⟨A, rfl⟩ : ∃ A : Nat, lo = (A : Int) := ⟨lo.toNat, by omega⟩
    simp only [Int.toNat_natCast]
    have eB : (A : Int) + (ins.length : Int) = ((A + ins.length : Nat) : Int) := by omega
    rw [eB]
    obtain ⟨C, hC⟩ : ∃ C, cntF (N : Int) (A : Int) ((A + ins.length : Nat) : Int) = C := ⟨_, rfl⟩
    rw [hC]
    by_cases q1 : outs.length = C
    · by_cases q2 : allLen size ins = true
      · by_cases q3 : allLen size outs = true
        · rw [if_pos ⟨q1, q2, q3⟩]
          by_cases q4 : (ins.length : Int) = (N : Int)
          · rw [if_pos q4]
            exact fold_all size N A (A + ins.length) C iv ov ins outs w hi ho rfl hb (by omega) (by omega) h4 h5 hC q1 q2 q3 hT (by omega)
          · rw [if_neg q4]
            exact fold_part size N A (A + ins.length) C iv ov ins outs w hi ho rfl hb (by omega) (by omega) h4 h5 hC q1 q2 q3 hT (by omega)
        · rw [if_neg (fun h => q3 h.2.2)]
          exact (fold_outs size N A (A + ins.length) C iv ov ins outs w hi ho rfl hb (by omega) (by omega) h4 h5 hC q1 q2 (by simpa using q3)).mono fun x w' ⟨a, b⟩ => ⟨none, 0, a, HB.nil _, b⟩
      · rw [if_neg (fun h => q2 h.2.1)]
        exact (fold_ins size N A (A + ins.length) C iv ov ins outs w hi ho rfl hb (by omega) (by omega) h4 h5 hC q1 (by simpa using q2)).mono fun x w' ⟨a, b⟩ => ⟨none, 0, a, HB.nil _, b⟩
    · rw [if_neg (fun h => q1 h.1)]
      exact (fold_cnt size N A (A + ins.length) C iv ov ins outs w hi ho rfl (by omega) (by omega) h4 h5 hC q1).mono fun x w' ⟨a, b⟩ => ⟨none, 0, a, HB.nil _, b⟩
  · rw [if_neg h]
    exact (fold_arg size n lo iv ov ins outs w hi ho hn0 hn1 h).mono fun x w' ⟨a, b⟩ => ⟨none, 0, a, HB.nil _, b⟩

def zero4 : List UInt8 := [0, 0, 0, 0]
/-- Four bytes of a digest. -/
def fix4 (l : List UInt8) : List UInt8 := l.take 4 ++ zero4.drop l.length

end Go.Proofs.YtggficgmjbgmpaaDoor
