/- What this text proves: the walk of merkle.Fold over this program: the root that digests, and what shows them, come to, or the error. -/
import Derived.Test.YtichffdkihifpaaDoorKFoldF
import Derived.Test.YtichffdkihifpaaDoorRegHeld
namespace Go.Proofs.YtichffdkihifpaaDoor
open Go.RowKit

/-- Whether the arguments of Fold may be. -/
def foldOk (size n lo : Int) (k : Nat) : Prop := 0 ≤ lo ∧ lo + (k : Int) ≤ n ∧ n ≤ 1048576 ∧ 1 ≤ size ∧ size ≤ 32

theorem below3 (w : World) (a b c : Obj) : Below w.heap.size w (((w.alloc a).alloc b).alloc c) := by
  have b1 := (Below.refl w.heap.size w).alloc (Nat.le_refl _) a
  have b2 := b1.alloc b1.size b
  exact b2.alloc b2.size c

set_option maxRecDepth 100000 in
set_option maxHeartbeats 2000000 in
theorem fold_arg (size n lo : Int) (iv ov : Value) (ins outs : List (List UInt8)) (w : World) (hi : PA w iv ins) (ho : PA w ov outs) (hn0 : -9223372036854775808 ≤ n) (hn1 : n ≤ 9223372036854775807) (h : ¬ foldOk size n lo ins.length) :
    Calls Tryd.prog 18 #[.int .i64 size, .int .i64 n, .int .i64 lo, iv, ov] w fun x w' => x = .returned (.tuple #[.slice none 0 0, .int .i64 1]) ∧ Below w.heap.size w w' := by
  obtain ⟨p, c, rfl⟩ := hi.shape
  obtain ⟨q, d, rfl⟩ := ho.shape
  have HB : Hid (Below w.heap.size w (((w.alloc (.cells #[.int .i64 lo] 3)).alloc (.cells #[.slice p ins.length c] 22)).alloc (.cells #[.slice q outs.length d] 22))) := below3 w _ _ _
  have c1 : (w.alloc (.cells #[.int .i64 lo] 3)).heap.size = w.heap.size + 1 := by simp
  have hL := hi.le
  unfold maxLen at hL
  unfold foldOk at h
  clear hi ho
  by_cases h1 : lo < 0
  · clear h
    go_enter Tryd.func18, Tryd.ntmps18
    go_wp2
    go_ret2
    exact ⟨rfl, HB.out⟩
  · have d1 : decide (lo < 0) = false := by simpa using h1
    by_cases h2 : n < lo
    · clear h
      go_enter Tryd.func18, Tryd.ntmps18
      go_wp2
      go_ret2
      exact ⟨rfl, HB.out⟩
    · have d2 : decide (n < lo) = false := by simpa using h2
      by_cases h3 : n - lo < (ins.length : Int)
      · clear h
        go_enter Tryd.func18, Tryd.ntmps18
        go_wp2
        go_ret2
        exact ⟨rfl, HB.out⟩
      · have d3 : decide (n - lo < (ins.length : Int)) = false := by simpa using h3
        by_cases h4 : 1048576 < n
        · clear h
          go_enter Tryd.func18, Tryd.ntmps18
          go_wp2
          go_ret2
          exact ⟨rfl, HB.out⟩
        · have d4 : decide (1048576 < n) = false := by simpa using h4
          by_cases h5 : size < 1
          · clear h
            go_enter Tryd.func18, Tryd.ntmps18
            go_wp2
            go_ret2
            exact ⟨rfl, HB.out⟩
          · have d5 : decide (size < 1) = false := by simpa using h5
            have h6 : 32 < size := by omega
            clear h
            go_enter Tryd.func18, Tryd.ntmps18
            go_wp2
            go_ret2
            exact ⟨rfl, HB.out⟩


theorem cf_count (xs : Array Value) (w : World) : (callFunc 15 xs).run Tryd.prog w = .ok (.enter 15 xs) w := by go_simp
theorem cf_sized (xs : Array Value) (w : World) : (callFunc 42 xs).run Tryd.prog w = .ok (.enter 42 xs) w := by go_simp

/-- The four boxes as they are made. -/
def BX (w V : World) (lo hi : Nat) (iv ov : Value) : Prop :=
  V.heap[w.heap.size]? = some (.cells #[.int .i64 (lo : Int)] 3 (0, 0)) ∧ V.heap[w.heap.size + 1]? = some (.cells #[iv] 22 (0, 0)) ∧ V.heap[w.heap.size + 2]? = some (.cells #[ov] 22 (0, 0)) ∧ V.heap[w.heap.size + 3]? = some (.cells #[.int .i64 (hi : Int)] 3 (0, 0)) ∧ Below w.heap.size w V ∧ w.heap.size + 3 < V.heap.size

theorem BX.made (w : World) (lo hi : Nat) (iv ov : Value) : BX w ((((w.alloc (.cells #[.int .i64 (lo : Int)] 3)).alloc (.cells #[iv] 22)).alloc (.cells #[ov] 22)).alloc (.cells #[.int .i64 (hi : Int)] 3)) lo hi iv ov := by
  have n1 := heap_alloc_new w (.cells #[.int .i64 (lo : Int)] 3)
  have b1 := (Below.refl w.heap.size w).alloc (Nat.le_refl _) (.cells #[.int .i64 (lo : Int)] 3)
  have s1 : (w.alloc (.cells #[.int .i64 (lo : Int)] 3)).heap.size = w.heap.size + 1 := by simp
  generalize w.alloc (.cells #[.int .i64 (lo : Int)] 3) = w1 at *
  have n2 := heap_alloc_new w1 (.cells #[iv] 22)
  have b2 := (Below.refl w1.heap.size w1).alloc (Nat.le_refl _) (.cells #[iv] 22)
  have s2 : (w1.alloc (.cells #[iv] 22)).heap.size = w1.heap.size + 1 := by simp
  generalize w1.alloc (.cells #[iv] 22) = w2 at *
  have n3 := heap_alloc_new w2 (.cells #[ov] 22)
  have b3 := (Below.refl w2.heap.size w2).alloc (Nat.le_refl _) (.cells #[ov] 22)
  have s3 : (w2.alloc (.cells #[ov] 22)).heap.size = w2.heap.size + 1 := by simp
  generalize w2.alloc (.cells #[ov] 22) = w3 at *
  have n4 := heap_alloc_new w3 (.cells #[.int .i64 (hi : Int)] 3)
  have b4 := (Below.refl w3.heap.size w3).alloc (Nat.le_refl _) (.cells #[.int .i64 (hi : Int)] 3)
  have s4 : (w3.alloc (.cells #[.int .i64 (hi : Int)] 3)).heap.size = w3.heap.size + 1 := by simp
  generalize w3.alloc (.cells #[.int .i64 (hi : Int)] 3) = w4 at *
  rw [show w1.heap.size = w.heap.size + 1 from s1] at n2
  rw [show w2.heap.size = w.heap.size + 2 by omega] at n3
  rw [show w3.heap.size = w.heap.size + 3 by omega] at n4
  refine ⟨?_, ?_, ?_, n4, ?_, by omega⟩
  · rw [b4.block _ (by omega), b3.block _ (by omega), b2.block _ (by omega)]; exact n1
  · rw [b4.block _ (by omega), b3.block _ (by omega)]; exact n2
  · rw [b4.block _ (by omega)]; exact n3
  · exact ((b1.trans (b2.mono (by omega))).trans (b3.mono (by omega))).trans (b4.mono (by omega))

theorem BX.later {w V V' : World} {lo hi : Nat} {iv ov : Value} (h : BX w V lo hi iv ov) (hb : Below V.heap.size V V') : BX w V' lo hi iv ov := by
  obtain ⟨h1, h2, h3, h4, h5, h6⟩ := h
  have := hb.size
  refine ⟨?_, ?_, ?_, ?_, h5.trans (hb.mono (by omega)), by omega⟩
  · rw [hb.block _ (by omega)]; exact h1
  · rw [hb.block _ (by omega)]; exact h2
  · rw [hb.block _ (by omega)]; exact h3
  · rw [hb.block _ (by omega)]; exact h4

theorem BX.cells {w V : World} {lo hi : Nat} {iv ov : Value} (h : BX w V lo hi iv ov) : V.cell? ⟨w.heap.size, 0, none⟩ = some (.int .i64 (lo : Int)) ∧ V.cell? ⟨w.heap.size + 1, 0, none⟩ = some iv ∧ V.cell? ⟨w.heap.size + 1 + 1, 0, none⟩ = some ov ∧ V.cell? ⟨w.heap.size + 1 + 1 + 1, 0, none⟩ = some (.int .i64 (hi : Int)) := by
  obtain ⟨h1, h2, h3, h4, h5, h6⟩ := h
  refine ⟨?_, ?_, ?_, ?_⟩
  · rw [cell_of_row V _ _ _ _ _ h1]; rfl
  · rw [cell_of_row V _ _ _ _ _ h2]; rfl
  · rw [cell_of_row V _ _ _ _ _ h3]; rfl
  · rw [cell_of_row V _ _ _ _ _ h4]; rfl

set_option maxRecDepth 100000 in
set_option maxHeartbeats 8000000 in
theorem fold_cnt (size : Int) (n lo hi C : Nat) (iv ov : Value) (ins outs : List (List UInt8)) (w : World) (hi' : PA w iv ins) (ho' : PA w ov outs) (hhi : lo + ins.length = hi) (hb : outs.length ≤ 140737488355328) (h1 : hi ≤ n) (h2 : n ≤ 1048576) (h3 : 1 ≤ size) (h4 : size ≤ 32) (hC : Hid (cntF (n : Int) (lo : Int) (hi : Int) = C)) (hne : ¬ outs.length = C) :
    Calls Tryd.prog 18 #[.int .i64 size, .int .i64 (n : Int), .int .i64 (lo : Int), iv, ov] w fun x w' => x = .returned (.tuple #[.slice none 0 0, .int .i64 5]) ∧ Below w.heap.size w w' := by
  have hS1 := fun W hp => sizedK_any size iv ins W hp (by omega)
  have hS2 := fun W hp => sizedK_any size ov outs W hp hb
  obtain ⟨p, c, rfl⟩ := hi'.shape
  obtain ⟨q, d, rfl⟩ := ho'.shape
  have hCt := fun w => count_any (n : Int) (lo : Int) (hi : Int) w
  rw [hC.out] at hCt
  have e1 : (lo : Int) + (ins.length : Int) = (hi : Int) := by omega
  have d3 : decide ((n : Int) - (lo : Int) < (ins.length : Int)) = false := by simp; omega
  have d4 : decide ((lo : Int) < 0) = false := by simp
  have d5 : decide (n < lo) = false := by simp; omega
  have d6 : decide ((1048576 : Int) < (n : Int)) = false := by simp; omega
  have d7 : decide (size < 1) = false := by simp; omega
  have d8 : decide (32 < size) = false := by simp; omega
  have d1 : ((outs.length : Int) != (C : Int)) = true := by simp; omega
  obtain ⟨V, hV⟩ : ∃ V, V = (((w.alloc (.cells #[.int .i64 (lo : Int)] 3)).alloc (.cells #[.slice p ins.length c] 22)).alloc (.cells #[.slice q outs.length d] 22)).alloc (.cells #[.int .i64 (hi : Int)] 3) := ⟨_, rfl⟩
  have hX := BX.made w lo hi (.slice p ins.length c) (.slice q outs.length d)
  rw [← hV] at hX
  clear hhi hC hne
  go_enter Tryd.func18, Tryd.ntmps18
  go_wp2_with fail
  rw [← hV]
  clear hV e1
  obtain ⟨v0, v1, v2, v3⟩ := hX.cells
  have hsP := fun W (hB : Below V.heap.size V W) => hS1 W (hi'.later (hX.later hB).2.2.2.2.1)
  have hsQ := fun W (hB : Below V.heap.size V W) => hS2 W (ho'.later (hX.later hB).2.2.2.2.1)
  clear hS1 hS2
  have hHeld := (hX.later ((Below.refl _ V).drew)).cells
  refine wp_region_heldN (by kernel_rfl) (fun w' => w'.cell? ⟨w.heap.size, 0, none⟩ = some (.int .i64 (lo : Int)) ∧ w'.cell? ⟨w.heap.size + 1, 0, none⟩ = some (.slice p ins.length c) ∧ w'.cell? ⟨w.heap.size + 1 + 1, 0, none⟩ = some (.slice q outs.length d) ∧ w'.cell? ⟨w.heap.size + 1 + 1 + 1, 0, none⟩ = some (.int .i64 (hi : Int))) 19 rfl ?_
  refine wpAnyH_take (i := 0) (oi := { dst := some 46, op := Op.load 22 (Operand.tmp 9), type := 22, pos := "merkle.go:100", after := #[], guard := none }) (v := ?v0) rfl (by kernel_rfl) (by kernel_rfl) (by kernel_rfl) (fun _ _ _ h => h) (Or.inl ⟨by rfl, ?y0⟩) hHeld ?r0
  case y0 => (intro w hSw; (try dsimp only at hSw); go_simp) <;> with_reducible rfl
  try simp only [Act.put, List.setIfInBounds_toArray, List.set_cons_zero, List.set_cons_succ]
  refine wpAnyH_take (i := 1) (oi := { dst := some 47, op := Op.call { callee := Callee.builtin Builtin.len, args := #[Operand.tmp 46], argTypes := #[22] }, type := 3, pos := "merkle.go:100", after := #[{ on := 0, ground := Ground.data }], guard := none }) (v := ?v1) rfl (by kernel_rfl) (by kernel_rfl) (by kernel_rfl) (fun _ _ _ h => h) (Or.inl ⟨by rfl, ?y1⟩) hHeld ?r1
  case y1 => (intro w hSw; (try dsimp only at hSw); go_simp) <;> with_reducible rfl
  try simp only [Act.put, List.setIfInBounds_toArray, List.set_cons_zero, List.set_cons_succ]
  refine wpAnyH_take (i := 2) (oi := { dst := some 48, op := Op.move (Operand.tmp 1), type := 3, pos := "merkle.go:100", after := #[], guard := none }) (v := ?v2) rfl (by kernel_rfl) (by kernel_rfl) (by kernel_rfl) (fun _ _ _ h => h) (Or.inl ⟨by rfl, ?y2⟩) hHeld ?r2
  case y2 => (intro w hSw; (try dsimp only at hSw); go_simp) <;> with_reducible rfl
  try simp only [Act.put, List.setIfInBounds_toArray, List.set_cons_zero, List.set_cons_succ]
  refine wpAnyH_take (i := 3) (oi := { dst := some 49, op := Op.load 3 (Operand.tmp 7), type := 3, pos := "merkle.go:100", after := #[], guard := none }) (v := ?v3) rfl (by kernel_rfl) (by kernel_rfl) (by kernel_rfl) (fun _ _ _ h => h) (Or.inl ⟨by rfl, ?y3⟩) hHeld ?r3
  case y3 => (intro w hSw; (try dsimp only at hSw); go_simp) <;> with_reducible rfl
  try simp only [Act.put, List.setIfInBounds_toArray, List.set_cons_zero, List.set_cons_succ]
  refine wpAnyH_take (i := 4) (oi := { dst := some 50, op := Op.load 3 (Operand.tmp 12), type := 3, pos := "merkle.go:100", after := #[], guard := none }) (v := ?v4) rfl (by kernel_rfl) (by kernel_rfl) (by kernel_rfl) (fun _ _ _ h => h) (Or.inl ⟨by rfl, ?y4⟩) hHeld ?r4
  case y4 => (intro w hSw; (try dsimp only at hSw); go_simp) <;> with_reducible rfl
  try simp only [Act.put, List.setIfInBounds_toArray, List.set_cons_zero, List.set_cons_succ]
  refine wpAnyH_ready (rs := [5]) (by kernel_rfl) (by simp) ?_
  refine AllReadyH.cons (o := { dst := some 51, op := Op.call { callee := Callee.value (Operand.func 15), args := #[Operand.tmp 48, Operand.tmp 49, Operand.tmp 50], argTypes := #[3, 3, 3] }, type := 3, pos := "merkle.go:100", after := #[{ on := 2, ground := Ground.data }, { on := 3, ground := Ground.data }, { on := 4, ground := Ground.data }], guard := none }) rfl (fun K hK => ?_) AllReadyH.nil
  go_simp
  refine (hCt _).mono ?_
  rintro e w1 ⟨rfl, hb1'⟩
  have hb1 : Below V.heap.size V w1 := ((Below.refl _ V).drew).trans (hb1'.mono (by simp))
  replace hHeld := (hX.later hb1).cells
  refine hK.out _ _ ?_ (fun _ => ?_)
  · exact hHeld
  clear hK K
  try simp only [Act.put, List.setIfInBounds_toArray, List.set_cons_zero, List.set_cons_succ]
  refine wpAnyH_take (i := 6) (oi := { dst := some 52, op := Op.binOp BinOp.neq 3 (Operand.tmp 47) (Operand.tmp 51) 3, type := 4, pos := "merkle.go:100", after := #[{ on := 1, ground := Ground.data }, { on := 5, ground := Ground.data }], guard := none }) (v := ?v6) rfl (by kernel_rfl) (by kernel_rfl) (by kernel_rfl) (fun _ _ _ h => h) (Or.inl ⟨by rfl, ?y6⟩) hHeld ?r6
  case y6 => (intro w hSw; (try dsimp only at hSw); go_simp) <;> with_reducible rfl
  try simp only [Act.put, List.setIfInBounds_toArray, List.set_cons_zero, List.set_cons_succ]
  refine wpAnyH_take (i := 7) (oi := { dst := some 53, op := Op.move (Operand.tmp 52), type := 4, pos := "merkle.go:100", after := #[{ on := 6, ground := Ground.data }, { on := 5, ground := Ground.chain }], guard := none }) (v := ?v7) rfl (by kernel_rfl) (by kernel_rfl) (by kernel_rfl) (fun _ _ _ h => h) (Or.inl ⟨by rfl, ?y7⟩) hHeld ?r7
  case y7 => (intro w hSw; (try dsimp only at hSw); go_simp) <;> with_reducible rfl
  try simp only [Act.put, List.setIfInBounds_toArray, List.set_cons_zero, List.set_cons_succ]
  refine wpAnyH_take (i := 8) (oi := { dst := some 54, op := Op.move (Operand.tmp 0), type := 3, pos := "merkle.go:100", after := #[{ on := 7, ground := Ground.guard }], guard := some (7, false) }) (v := undef) rfl (by kernel_rfl) (by kernel_rfl) (by kernel_rfl) (fun _ _ _ h => h) (Or.inr ⟨by rfl, rfl⟩) hHeld ?_
  try simp only [Act.put, List.setIfInBounds_toArray, List.set_cons_zero, List.set_cons_succ]
  refine wpAnyH_take (i := 9) (oi := { dst := some 55, op := Op.load 22 (Operand.tmp 8), type := 22, pos := "merkle.go:100", after := #[{ on := 7, ground := Ground.guard }], guard := some (7, false) }) (v := undef) rfl (by kernel_rfl) (by kernel_rfl) (by kernel_rfl) (fun _ _ _ h => h) (Or.inr ⟨by rfl, rfl⟩) hHeld ?_
  try simp only [Act.put, List.setIfInBounds_toArray, List.set_cons_zero, List.set_cons_succ]
  refine wpAnyH_take (i := 10) (oi := { dst := some 56, op := Op.call { callee := Callee.value (Operand.func 42), args := #[Operand.tmp 54, Operand.tmp 55], argTypes := #[3, 22] }, type := 4, pos := "merkle.go:100", after := #[{ on := 8, ground := Ground.data }, { on := 9, ground := Ground.data }, { on := 7, ground := Ground.chain }, { on := 7, ground := Ground.guard }], guard := some (7, false) }) (v := undef) rfl (by kernel_rfl) (by kernel_rfl) (by kernel_rfl) (fun _ _ _ h => h) (Or.inr ⟨by rfl, rfl⟩) hHeld ?_
  try simp only [Act.put, List.setIfInBounds_toArray, List.set_cons_zero, List.set_cons_succ]
  refine wpAnyH_take (i := 11) (oi := { dst := some 57, op := Op.unOp UnOp.not 4 (Operand.tmp 56), type := 4, pos := "merkle.go:100", after := #[{ on := 10, ground := Ground.data }, { on := 7, ground := Ground.guard }], guard := some (7, false) }) (v := undef) rfl (by kernel_rfl) (by kernel_rfl) (by kernel_rfl) (fun _ _ _ h => h) (Or.inr ⟨by rfl, rfl⟩) hHeld ?_
  try simp only [Act.put, List.setIfInBounds_toArray, List.set_cons_zero, List.set_cons_succ]
  refine wpAnyH_take (i := 12) (oi := { dst := some 58, op := Op.pick (Operand.tmp 53) (Operand.const (Value.bool true)) (Operand.tmp 57), type := 4, pos := "merkle.go:100", after := #[{ on := 7, ground := Ground.data }, { on := 11, ground := Ground.data }], guard := none }) (v := ?v12) rfl (by kernel_rfl) (by kernel_rfl) (by kernel_rfl) (fun _ _ _ h => h) (Or.inl ⟨by rfl, ?y12⟩) hHeld ?r12
  case y12 => (intro w hSw; (try dsimp only at hSw); go_simp) <;> with_reducible rfl
  try simp only [Act.put, List.setIfInBounds_toArray, List.set_cons_zero, List.set_cons_succ]
  refine wpAnyH_take (i := 13) (oi := { dst := some 59, op := Op.move (Operand.tmp 58), type := 4, pos := "merkle.go:100", after := #[{ on := 12, ground := Ground.data }, { on := 10, ground := Ground.chain }], guard := none }) (v := ?v13) rfl (by kernel_rfl) (by kernel_rfl) (by kernel_rfl) (fun _ _ _ h => h) (Or.inl ⟨by rfl, ?y13⟩) hHeld ?r13
  case y13 => (intro w hSw; (try dsimp only at hSw); go_simp) <;> with_reducible rfl
  try simp only [Act.put, List.setIfInBounds_toArray, List.set_cons_zero, List.set_cons_succ]
  refine wpAnyH_take (i := 14) (oi := { dst := some 60, op := Op.move (Operand.tmp 0), type := 3, pos := "merkle.go:100", after := #[{ on := 13, ground := Ground.guard }], guard := some (13, false) }) (v := undef) rfl (by kernel_rfl) (by kernel_rfl) (by kernel_rfl) (fun _ _ _ h => h) (Or.inr ⟨by rfl, rfl⟩) hHeld ?_
  try simp only [Act.put, List.setIfInBounds_toArray, List.set_cons_zero, List.set_cons_succ]
  refine wpAnyH_take (i := 15) (oi := { dst := some 61, op := Op.load 22 (Operand.tmp 9), type := 22, pos := "merkle.go:100", after := #[{ on := 13, ground := Ground.guard }], guard := some (13, false) }) (v := undef) rfl (by kernel_rfl) (by kernel_rfl) (by kernel_rfl) (fun _ _ _ h => h) (Or.inr ⟨by rfl, rfl⟩) hHeld ?_
  try simp only [Act.put, List.setIfInBounds_toArray, List.set_cons_zero, List.set_cons_succ]
  refine wpAnyH_take (i := 16) (oi := { dst := some 62, op := Op.call { callee := Callee.value (Operand.func 42), args := #[Operand.tmp 60, Operand.tmp 61], argTypes := #[3, 22] }, type := 4, pos := "merkle.go:100", after := #[{ on := 14, ground := Ground.data }, { on := 15, ground := Ground.data }, { on := 13, ground := Ground.chain }, { on := 13, ground := Ground.guard }], guard := some (13, false) }) (v := undef) rfl (by kernel_rfl) (by kernel_rfl) (by kernel_rfl) (fun _ _ _ h => h) (Or.inr ⟨by rfl, rfl⟩) hHeld ?_
  try simp only [Act.put, List.setIfInBounds_toArray, List.set_cons_zero, List.set_cons_succ]
  refine wpAnyH_take (i := 17) (oi := { dst := some 63, op := Op.unOp UnOp.not 4 (Operand.tmp 62), type := 4, pos := "merkle.go:100", after := #[{ on := 16, ground := Ground.data }, { on := 13, ground := Ground.guard }], guard := some (13, false) }) (v := undef) rfl (by kernel_rfl) (by kernel_rfl) (by kernel_rfl) (fun _ _ _ h => h) (Or.inr ⟨by rfl, rfl⟩) hHeld ?_
  try simp only [Act.put, List.setIfInBounds_toArray, List.set_cons_zero, List.set_cons_succ]
  refine wpAnyH_take (i := 18) (oi := { dst := some 64, op := Op.pick (Operand.tmp 59) (Operand.const (Value.bool true)) (Operand.tmp 63), type := 4, pos := "merkle.go:100", after := #[{ on := 13, ground := Ground.data }, { on := 17, ground := Ground.data }], guard := none }) (v := ?v18) rfl (by kernel_rfl) (by kernel_rfl) (by kernel_rfl) (fun _ _ _ h => h) (Or.inl ⟨by rfl, ?y18⟩) hHeld ?r18
  case y18 => (intro w hSw; (try dsimp only at hSw); go_simp) <;> with_reducible rfl
  try simp only [Act.put, List.setIfInBounds_toArray, List.set_cons_zero, List.set_cons_succ]
  refine wpAnyH_done (by kernel_rfl) ?_ _
  have hB := (hX.later hb1).2.2.2.2.1
  clear hsP hsQ hCt v0 v1 v2 v3 hb1 hb1' hX hi' ho' hHeld
  go_wp2
  go_ret2
  exact ⟨rfl, hB⟩

set_option maxRecDepth 100000 in
set_option maxHeartbeats 8000000 in
theorem fold_ins (size : Int) (n lo hi C : Nat) (iv ov : Value) (ins outs : List (List UInt8)) (w : World) (hi' : PA w iv ins) (ho' : PA w ov outs) (hhi : lo + ins.length = hi) (hb : outs.length ≤ 140737488355328) (h1 : hi ≤ n) (h2 : n ≤ 1048576) (h3 : 1 ≤ size) (h4 : size ≤ 32) (hC : Hid (cntF (n : Int) (lo : Int) (hi : Int) = C)) (hne : outs.length = C) (ha : allLen size ins = false) :
    Calls Tryd.prog 18 #[.int .i64 size, .int .i64 (n : Int), .int .i64 (lo : Int), iv, ov] w fun x w' => x = .returned (.tuple #[.slice none 0 0, .int .i64 5]) ∧ Below w.heap.size w w' := by
  have hS1 := fun W hp => sizedK_any size iv ins W hp (by omega)
  have hS2 := fun W hp => sizedK_any size ov outs W hp hb
  obtain ⟨p, c, rfl⟩ := hi'.shape
  obtain ⟨q, d, rfl⟩ := ho'.shape
  have hCt := fun w => count_any (n : Int) (lo : Int) (hi : Int) w
  rw [hC.out] at hCt
  have e1 : (lo : Int) + (ins.length : Int) = (hi : Int) := by omega
  have d3 : decide ((n : Int) - (lo : Int) < (ins.length : Int)) = false := by simp; omega
  have d4 : decide ((lo : Int) < 0) = false := by simp
  have d5 : decide (n < lo) = false := by simp; omega
  have d6 : decide ((1048576 : Int) < (n : Int)) = false := by simp; omega
  have d7 : decide (size < 1) = false := by simp; omega
  have d8 : decide (32 < size) = false := by simp; omega
  have d1 : ((outs.length : Int) != (C : Int)) = false := by simp; omega
  rw [ha] at hS1
  obtain ⟨V, hV⟩ : ∃ V, V = (((w.alloc (.cells #[.int .i64 (lo : Int)] 3)).alloc (.cells #[.slice p ins.length c] 22)).alloc (.cells #[.slice q outs.length d] 22)).alloc (.cells #[.int .i64 (hi : Int)] 3) := ⟨_, rfl⟩
  have hX := BX.made w lo hi (.slice p ins.length c) (.slice q outs.length d)
  rw [← hV] at hX
  clear hhi hC hne ha
  go_enter Tryd.func18, Tryd.ntmps18
  go_wp2_with fail
  rw [← hV]
  clear hV e1
  obtain ⟨v0, v1, v2, v3⟩ := hX.cells
  have hsP := fun W (hB : Below V.heap.size V W) => hS1 W (hi'.later (hX.later hB).2.2.2.2.1)
  have hsQ := fun W (hB : Below V.heap.size V W) => hS2 W (ho'.later (hX.later hB).2.2.2.2.1)
  clear hS1 hS2
  have hHeld := (hX.later ((Below.refl _ V).drew)).cells
  refine wp_region_heldN (by kernel_rfl) (fun w' => w'.cell? ⟨w.heap.size, 0, none⟩ = some (.int .i64 (lo : Int)) ∧ w'.cell? ⟨w.heap.size + 1, 0, none⟩ = some (.slice p ins.length c) ∧ w'.cell? ⟨w.heap.size + 1 + 1, 0, none⟩ = some (.slice q outs.length d) ∧ w'.cell? ⟨w.heap.size + 1 + 1 + 1, 0, none⟩ = some (.int .i64 (hi : Int))) 19 rfl ?_
  refine wpAnyH_take (i := 0) (oi := { dst := some 46, op := Op.load 22 (Operand.tmp 9), type := 22, pos := "merkle.go:100", after := #[], guard := none }) (v := ?v0) rfl (by kernel_rfl) (by kernel_rfl) (by kernel_rfl) (fun _ _ _ h => h) (Or.inl ⟨by rfl, ?y0⟩) hHeld ?r0
  case y0 => (intro w hSw; (try dsimp only at hSw); go_simp) <;> with_reducible rfl
  try simp only [Act.put, List.setIfInBounds_toArray, List.set_cons_zero, List.set_cons_succ]
  refine wpAnyH_take (i := 1) (oi := { dst := some 47, op := Op.call { callee := Callee.builtin Builtin.len, args := #[Operand.tmp 46], argTypes := #[22] }, type := 3, pos := "merkle.go:100", after := #[{ on := 0, ground := Ground.data }], guard := none }) (v := ?v1) rfl (by kernel_rfl) (by kernel_rfl) (by kernel_rfl) (fun _ _ _ h => h) (Or.inl ⟨by rfl, ?y1⟩) hHeld ?r1
  case y1 => (intro w hSw; (try dsimp only at hSw); go_simp) <;> with_reducible rfl
  try simp only [Act.put, List.setIfInBounds_toArray, List.set_cons_zero, List.set_cons_succ]
  refine wpAnyH_take (i := 2) (oi := { dst := some 48, op := Op.move (Operand.tmp 1), type := 3, pos := "merkle.go:100", after := #[], guard := none }) (v := ?v2) rfl (by kernel_rfl) (by kernel_rfl) (by kernel_rfl) (fun _ _ _ h => h) (Or.inl ⟨by rfl, ?y2⟩) hHeld ?r2
  case y2 => (intro w hSw; (try dsimp only at hSw); go_simp) <;> with_reducible rfl
  try simp only [Act.put, List.setIfInBounds_toArray, List.set_cons_zero, List.set_cons_succ]
  refine wpAnyH_take (i := 3) (oi := { dst := some 49, op := Op.load 3 (Operand.tmp 7), type := 3, pos := "merkle.go:100", after := #[], guard := none }) (v := ?v3) rfl (by kernel_rfl) (by kernel_rfl) (by kernel_rfl) (fun _ _ _ h => h) (Or.inl ⟨by rfl, ?y3⟩) hHeld ?r3
  case y3 => (intro w hSw; (try dsimp only at hSw); go_simp) <;> with_reducible rfl
  try simp only [Act.put, List.setIfInBounds_toArray, List.set_cons_zero, List.set_cons_succ]
  refine wpAnyH_take (i := 4) (oi := { dst := some 50, op := Op.load 3 (Operand.tmp 12), type := 3, pos := "merkle.go:100", after := #[], guard := none }) (v := ?v4) rfl (by kernel_rfl) (by kernel_rfl) (by kernel_rfl) (fun _ _ _ h => h) (Or.inl ⟨by rfl, ?y4⟩) hHeld ?r4
  case y4 => (intro w hSw; (try dsimp only at hSw); go_simp) <;> with_reducible rfl
  try simp only [Act.put, List.setIfInBounds_toArray, List.set_cons_zero, List.set_cons_succ]
  refine wpAnyH_ready (rs := [5]) (by kernel_rfl) (by simp) ?_
  refine AllReadyH.cons (o := { dst := some 51, op := Op.call { callee := Callee.value (Operand.func 15), args := #[Operand.tmp 48, Operand.tmp 49, Operand.tmp 50], argTypes := #[3, 3, 3] }, type := 3, pos := "merkle.go:100", after := #[{ on := 2, ground := Ground.data }, { on := 3, ground := Ground.data }, { on := 4, ground := Ground.data }], guard := none }) rfl (fun K hK => ?_) AllReadyH.nil
  go_simp
  refine (hCt _).mono ?_
  rintro e w1 ⟨rfl, hb1'⟩
  have hb1 : Below V.heap.size V w1 := ((Below.refl _ V).drew).trans (hb1'.mono (by simp))
  replace hHeld := (hX.later hb1).cells
  refine hK.out _ _ ?_ (fun _ => ?_)
  · exact hHeld
  clear hK K
  try simp only [Act.put, List.setIfInBounds_toArray, List.set_cons_zero, List.set_cons_succ]
  refine wpAnyH_take (i := 6) (oi := { dst := some 52, op := Op.binOp BinOp.neq 3 (Operand.tmp 47) (Operand.tmp 51) 3, type := 4, pos := "merkle.go:100", after := #[{ on := 1, ground := Ground.data }, { on := 5, ground := Ground.data }], guard := none }) (v := ?v6) rfl (by kernel_rfl) (by kernel_rfl) (by kernel_rfl) (fun _ _ _ h => h) (Or.inl ⟨by rfl, ?y6⟩) hHeld ?r6
  case y6 => (intro w hSw; (try dsimp only at hSw); go_simp) <;> with_reducible rfl
  try simp only [Act.put, List.setIfInBounds_toArray, List.set_cons_zero, List.set_cons_succ]
  refine wpAnyH_take (i := 7) (oi := { dst := some 53, op := Op.move (Operand.tmp 52), type := 4, pos := "merkle.go:100", after := #[{ on := 6, ground := Ground.data }, { on := 5, ground := Ground.chain }], guard := none }) (v := ?v7) rfl (by kernel_rfl) (by kernel_rfl) (by kernel_rfl) (fun _ _ _ h => h) (Or.inl ⟨by rfl, ?y7⟩) hHeld ?r7
  case y7 => (intro w hSw; (try dsimp only at hSw); go_simp) <;> with_reducible rfl
  try simp only [Act.put, List.setIfInBounds_toArray, List.set_cons_zero, List.set_cons_succ]
  refine wpAnyH_take (i := 8) (oi := { dst := some 54, op := Op.move (Operand.tmp 0), type := 3, pos := "merkle.go:100", after := #[{ on := 7, ground := Ground.guard }], guard := some (7, false) }) (v := ?v8) rfl (by kernel_rfl) (by kernel_rfl) (by kernel_rfl) (fun _ _ _ h => h) (Or.inl ⟨by rfl, ?y8⟩) hHeld ?r8
  case y8 => (intro w hSw; (try dsimp only at hSw); go_simp) <;> with_reducible rfl
  try simp only [Act.put, List.setIfInBounds_toArray, List.set_cons_zero, List.set_cons_succ]
  refine wpAnyH_take (i := 9) (oi := { dst := some 55, op := Op.load 22 (Operand.tmp 8), type := 22, pos := "merkle.go:100", after := #[{ on := 7, ground := Ground.guard }], guard := some (7, false) }) (v := ?v9) rfl (by kernel_rfl) (by kernel_rfl) (by kernel_rfl) (fun _ _ _ h => h) (Or.inl ⟨by rfl, ?y9⟩) hHeld ?r9
  case y9 => (intro w hSw; (try dsimp only at hSw); go_simp) <;> with_reducible rfl
  try simp only [Act.put, List.setIfInBounds_toArray, List.set_cons_zero, List.set_cons_succ]
  refine wpAnyH_ready (rs := [10]) (by kernel_rfl) (by simp) ?_
  refine AllReadyH.cons (o := { dst := some 56, op := Op.call { callee := Callee.value (Operand.func 42), args := #[Operand.tmp 54, Operand.tmp 55], argTypes := #[3, 22] }, type := 4, pos := "merkle.go:100", after := #[{ on := 8, ground := Ground.data }, { on := 9, ground := Ground.data }, { on := 7, ground := Ground.chain }, { on := 7, ground := Ground.guard }], guard := some (7, false) }) rfl (fun K hK => ?_) AllReadyH.nil
  go_simp
  refine (hsP _ hb1).mono ?_
  rintro e w2 ⟨rfl, hw⟩
  subst hw
  refine hK.out _ _ ?_ (fun _ => ?_)
  · exact hHeld
  clear hK K
  try simp only [Act.put, List.setIfInBounds_toArray, List.set_cons_zero, List.set_cons_succ]
  refine wpAnyH_take (i := 11) (oi := { dst := some 57, op := Op.unOp UnOp.not 4 (Operand.tmp 56), type := 4, pos := "merkle.go:100", after := #[{ on := 10, ground := Ground.data }, { on := 7, ground := Ground.guard }], guard := some (7, false) }) (v := ?v11) rfl (by kernel_rfl) (by kernel_rfl) (by kernel_rfl) (fun _ _ _ h => h) (Or.inl ⟨by rfl, ?y11⟩) hHeld ?r11
  case y11 => (intro w hSw; (try dsimp only at hSw); go_simp) <;> with_reducible rfl
  try simp only [Act.put, List.setIfInBounds_toArray, List.set_cons_zero, List.set_cons_succ]
  refine wpAnyH_take (i := 12) (oi := { dst := some 58, op := Op.pick (Operand.tmp 53) (Operand.const (Value.bool true)) (Operand.tmp 57), type := 4, pos := "merkle.go:100", after := #[{ on := 7, ground := Ground.data }, { on := 11, ground := Ground.data }], guard := none }) (v := ?v12) rfl (by kernel_rfl) (by kernel_rfl) (by kernel_rfl) (fun _ _ _ h => h) (Or.inl ⟨by rfl, ?y12⟩) hHeld ?r12
  case y12 => (intro w hSw; (try dsimp only at hSw); go_simp) <;> with_reducible rfl
  try simp only [Act.put, List.setIfInBounds_toArray, List.set_cons_zero, List.set_cons_succ]
  refine wpAnyH_take (i := 13) (oi := { dst := some 59, op := Op.move (Operand.tmp 58), type := 4, pos := "merkle.go:100", after := #[{ on := 12, ground := Ground.data }, { on := 10, ground := Ground.chain }], guard := none }) (v := ?v13) rfl (by kernel_rfl) (by kernel_rfl) (by kernel_rfl) (fun _ _ _ h => h) (Or.inl ⟨by rfl, ?y13⟩) hHeld ?r13
  case y13 => (intro w hSw; (try dsimp only at hSw); go_simp) <;> with_reducible rfl
  try simp only [Act.put, List.setIfInBounds_toArray, List.set_cons_zero, List.set_cons_succ]
  refine wpAnyH_take (i := 14) (oi := { dst := some 60, op := Op.move (Operand.tmp 0), type := 3, pos := "merkle.go:100", after := #[{ on := 13, ground := Ground.guard }], guard := some (13, false) }) (v := undef) rfl (by kernel_rfl) (by kernel_rfl) (by kernel_rfl) (fun _ _ _ h => h) (Or.inr ⟨by rfl, rfl⟩) hHeld ?_
  try simp only [Act.put, List.setIfInBounds_toArray, List.set_cons_zero, List.set_cons_succ]
  refine wpAnyH_take (i := 15) (oi := { dst := some 61, op := Op.load 22 (Operand.tmp 9), type := 22, pos := "merkle.go:100", after := #[{ on := 13, ground := Ground.guard }], guard := some (13, false) }) (v := undef) rfl (by kernel_rfl) (by kernel_rfl) (by kernel_rfl) (fun _ _ _ h => h) (Or.inr ⟨by rfl, rfl⟩) hHeld ?_
  try simp only [Act.put, List.setIfInBounds_toArray, List.set_cons_zero, List.set_cons_succ]
  refine wpAnyH_take (i := 16) (oi := { dst := some 62, op := Op.call { callee := Callee.value (Operand.func 42), args := #[Operand.tmp 60, Operand.tmp 61], argTypes := #[3, 22] }, type := 4, pos := "merkle.go:100", after := #[{ on := 14, ground := Ground.data }, { on := 15, ground := Ground.data }, { on := 13, ground := Ground.chain }, { on := 13, ground := Ground.guard }], guard := some (13, false) }) (v := undef) rfl (by kernel_rfl) (by kernel_rfl) (by kernel_rfl) (fun _ _ _ h => h) (Or.inr ⟨by rfl, rfl⟩) hHeld ?_
  try simp only [Act.put, List.setIfInBounds_toArray, List.set_cons_zero, List.set_cons_succ]
  refine wpAnyH_take (i := 17) (oi := { dst := some 63, op := Op.unOp UnOp.not 4 (Operand.tmp 62), type := 4, pos := "merkle.go:100", after := #[{ on := 16, ground := Ground.data }, { on := 13, ground := Ground.guard }], guard := some (13, false) }) (v := undef) rfl (by kernel_rfl) (by kernel_rfl) (by kernel_rfl) (fun _ _ _ h => h) (Or.inr ⟨by rfl, rfl⟩) hHeld ?_
  try simp only [Act.put, List.setIfInBounds_toArray, List.set_cons_zero, List.set_cons_succ]
  refine wpAnyH_take (i := 18) (oi := { dst := some 64, op := Op.pick (Operand.tmp 59) (Operand.const (Value.bool true)) (Operand.tmp 63), type := 4, pos := "merkle.go:100", after := #[{ on := 13, ground := Ground.data }, { on := 17, ground := Ground.data }], guard := none }) (v := ?v18) rfl (by kernel_rfl) (by kernel_rfl) (by kernel_rfl) (fun _ _ _ h => h) (Or.inl ⟨by rfl, ?y18⟩) hHeld ?r18
  case y18 => (intro w hSw; (try dsimp only at hSw); go_simp) <;> with_reducible rfl
  try simp only [Act.put, List.setIfInBounds_toArray, List.set_cons_zero, List.set_cons_succ]
  refine wpAnyH_done (by kernel_rfl) ?_ _
  have hB := (hX.later hb1).2.2.2.2.1
  clear hsP hsQ hCt v0 v1 v2 v3 hb1 hb1' hX hi' ho' hHeld
  go_wp2
  go_ret2
  exact ⟨rfl, hB⟩

set_option maxRecDepth 100000 in
set_option maxHeartbeats 8000000 in
theorem fold_outs (size : Int) (n lo hi C : Nat) (iv ov : Value) (ins outs : List (List UInt8)) (w : World) (hi' : PA w iv ins) (ho' : PA w ov outs) (hhi : lo + ins.length = hi) (hb : outs.length ≤ 140737488355328) (h1 : hi ≤ n) (h2 : n ≤ 1048576) (h3 : 1 ≤ size) (h4 : size ≤ 32) (hC : Hid (cntF (n : Int) (lo : Int) (hi : Int) = C)) (hne : outs.length = C) (ha : allLen size ins = true) (hb2 : allLen size outs = false) :
    Calls Tryd.prog 18 #[.int .i64 size, .int .i64 (n : Int), .int .i64 (lo : Int), iv, ov] w fun x w' => x = .returned (.tuple #[.slice none 0 0, .int .i64 5]) ∧ Below w.heap.size w w' := by
  have hS1 := fun W hp => sizedK_any size iv ins W hp (by omega)
  have hS2 := fun W hp => sizedK_any size ov outs W hp hb
  obtain ⟨p, c, rfl⟩ := hi'.shape
  obtain ⟨q, d, rfl⟩ := ho'.shape
  have hCt := fun w => count_any (n : Int) (lo : Int) (hi : Int) w
  rw [hC.out] at hCt
  have e1 : (lo : Int) + (ins.length : Int) = (hi : Int) := by omega
  have d3 : decide ((n : Int) - (lo : Int) < (ins.length : Int)) = false := by simp; omega
  have d4 : decide ((lo : Int) < 0) = false := by simp
  have d5 : decide (n < lo) = false := by simp; omega
  have d6 : decide ((1048576 : Int) < (n : Int)) = false := by simp; omega
  have d7 : decide (size < 1) = false := by simp; omega
  have d8 : decide (32 < size) = false := by simp; omega
  have d1 : ((outs.length : Int) != (C : Int)) = false := by simp; omega
  rw [ha] at hS1
  rw [hb2] at hS2
  obtain ⟨V, hV⟩ : ∃ V, V = (((w.alloc (.cells #[.int .i64 (lo : Int)] 3)).alloc (.cells #[.slice p ins.length c] 22)).alloc (.cells #[.slice q outs.length d] 22)).alloc (.cells #[.int .i64 (hi : Int)] 3) := ⟨_, rfl⟩
  have hX := BX.made w lo hi (.slice p ins.length c) (.slice q outs.length d)
  rw [← hV] at hX
  clear hhi hC hne ha hb2
  go_enter Tryd.func18, Tryd.ntmps18
  go_wp2_with fail
  rw [← hV]
  clear hV e1
  obtain ⟨v0, v1, v2, v3⟩ := hX.cells
  have hsP := fun W (hB : Below V.heap.size V W) => hS1 W (hi'.later (hX.later hB).2.2.2.2.1)
  have hsQ := fun W (hB : Below V.heap.size V W) => hS2 W (ho'.later (hX.later hB).2.2.2.2.1)
  clear hS1 hS2
  have hHeld := (hX.later ((Below.refl _ V).drew)).cells
  refine wp_region_heldN (by kernel_rfl) (fun w' => w'.cell? ⟨w.heap.size, 0, none⟩ = some (.int .i64 (lo : Int)) ∧ w'.cell? ⟨w.heap.size + 1, 0, none⟩ = some (.slice p ins.length c) ∧ w'.cell? ⟨w.heap.size + 1 + 1, 0, none⟩ = some (.slice q outs.length d) ∧ w'.cell? ⟨w.heap.size + 1 + 1 + 1, 0, none⟩ = some (.int .i64 (hi : Int))) 19 rfl ?_
  refine wpAnyH_take (i := 0) (oi := { dst := some 46, op := Op.load 22 (Operand.tmp 9), type := 22, pos := "merkle.go:100", after := #[], guard := none }) (v := ?v0) rfl (by kernel_rfl) (by kernel_rfl) (by kernel_rfl) (fun _ _ _ h => h) (Or.inl ⟨by rfl, ?y0⟩) hHeld ?r0
  case y0 => (intro w hSw; (try dsimp only at hSw); go_simp) <;> with_reducible rfl
  try simp only [Act.put, List.setIfInBounds_toArray, List.set_cons_zero, List.set_cons_succ]
  refine wpAnyH_take (i := 1) (oi := { dst := some 47, op := Op.call { callee := Callee.builtin Builtin.len, args := #[Operand.tmp 46], argTypes := #[22] }, type := 3, pos := "merkle.go:100", after := #[{ on := 0, ground := Ground.data }], guard := none }) (v := ?v1) rfl (by kernel_rfl) (by kernel_rfl) (by kernel_rfl) (fun _ _ _ h => h) (Or.inl ⟨by rfl, ?y1⟩) hHeld ?r1
  case y1 => (intro w hSw; (try dsimp only at hSw); go_simp) <;> with_reducible rfl
  try simp only [Act.put, List.setIfInBounds_toArray, List.set_cons_zero, List.set_cons_succ]
  refine wpAnyH_take (i := 2) (oi := { dst := some 48, op := Op.move (Operand.tmp 1), type := 3, pos := "merkle.go:100", after := #[], guard := none }) (v := ?v2) rfl (by kernel_rfl) (by kernel_rfl) (by kernel_rfl) (fun _ _ _ h => h) (Or.inl ⟨by rfl, ?y2⟩) hHeld ?r2
  case y2 => (intro w hSw; (try dsimp only at hSw); go_simp) <;> with_reducible rfl
  try simp only [Act.put, List.setIfInBounds_toArray, List.set_cons_zero, List.set_cons_succ]
  refine wpAnyH_take (i := 3) (oi := { dst := some 49, op := Op.load 3 (Operand.tmp 7), type := 3, pos := "merkle.go:100", after := #[], guard := none }) (v := ?v3) rfl (by kernel_rfl) (by kernel_rfl) (by kernel_rfl) (fun _ _ _ h => h) (Or.inl ⟨by rfl, ?y3⟩) hHeld ?r3
  case y3 => (intro w hSw; (try dsimp only at hSw); go_simp) <;> with_reducible rfl
  try simp only [Act.put, List.setIfInBounds_toArray, List.set_cons_zero, List.set_cons_succ]
  refine wpAnyH_take (i := 4) (oi := { dst := some 50, op := Op.load 3 (Operand.tmp 12), type := 3, pos := "merkle.go:100", after := #[], guard := none }) (v := ?v4) rfl (by kernel_rfl) (by kernel_rfl) (by kernel_rfl) (fun _ _ _ h => h) (Or.inl ⟨by rfl, ?y4⟩) hHeld ?r4
  case y4 => (intro w hSw; (try dsimp only at hSw); go_simp) <;> with_reducible rfl
  try simp only [Act.put, List.setIfInBounds_toArray, List.set_cons_zero, List.set_cons_succ]
  refine wpAnyH_ready (rs := [5]) (by kernel_rfl) (by simp) ?_
  refine AllReadyH.cons (o := { dst := some 51, op := Op.call { callee := Callee.value (Operand.func 15), args := #[Operand.tmp 48, Operand.tmp 49, Operand.tmp 50], argTypes := #[3, 3, 3] }, type := 3, pos := "merkle.go:100", after := #[{ on := 2, ground := Ground.data }, { on := 3, ground := Ground.data }, { on := 4, ground := Ground.data }], guard := none }) rfl (fun K hK => ?_) AllReadyH.nil
  go_simp
  refine (hCt _).mono ?_
  rintro e w1 ⟨rfl, hb1'⟩
  have hb1 : Below V.heap.size V w1 := ((Below.refl _ V).drew).trans (hb1'.mono (by simp))
  replace hHeld := (hX.later hb1).cells
  refine hK.out _ _ ?_ (fun _ => ?_)
  · exact hHeld
  clear hK K
  try simp only [Act.put, List.setIfInBounds_toArray, List.set_cons_zero, List.set_cons_succ]
  refine wpAnyH_take (i := 6) (oi := { dst := some 52, op := Op.binOp BinOp.neq 3 (Operand.tmp 47) (Operand.tmp 51) 3, type := 4, pos := "merkle.go:100", after := #[{ on := 1, ground := Ground.data }, { on := 5, ground := Ground.data }], guard := none }) (v := ?v6) rfl (by kernel_rfl) (by kernel_rfl) (by kernel_rfl) (fun _ _ _ h => h) (Or.inl ⟨by rfl, ?y6⟩) hHeld ?r6
  case y6 => (intro w hSw; (try dsimp only at hSw); go_simp) <;> with_reducible rfl
  try simp only [Act.put, List.setIfInBounds_toArray, List.set_cons_zero, List.set_cons_succ]
  refine wpAnyH_take (i := 7) (oi := { dst := some 53, op := Op.move (Operand.tmp 52), type := 4, pos := "merkle.go:100", after := #[{ on := 6, ground := Ground.data }, { on := 5, ground := Ground.chain }], guard := none }) (v := ?v7) rfl (by kernel_rfl) (by kernel_rfl) (by kernel_rfl) (fun _ _ _ h => h) (Or.inl ⟨by rfl, ?y7⟩) hHeld ?r7
  case y7 => (intro w hSw; (try dsimp only at hSw); go_simp) <;> with_reducible rfl
  try simp only [Act.put, List.setIfInBounds_toArray, List.set_cons_zero, List.set_cons_succ]
  refine wpAnyH_take (i := 8) (oi := { dst := some 54, op := Op.move (Operand.tmp 0), type := 3, pos := "merkle.go:100", after := #[{ on := 7, ground := Ground.guard }], guard := some (7, false) }) (v := ?v8) rfl (by kernel_rfl) (by kernel_rfl) (by kernel_rfl) (fun _ _ _ h => h) (Or.inl ⟨by rfl, ?y8⟩) hHeld ?r8
  case y8 => (intro w hSw; (try dsimp only at hSw); go_simp) <;> with_reducible rfl
  try simp only [Act.put, List.setIfInBounds_toArray, List.set_cons_zero, List.set_cons_succ]
  refine wpAnyH_take (i := 9) (oi := { dst := some 55, op := Op.load 22 (Operand.tmp 8), type := 22, pos := "merkle.go:100", after := #[{ on := 7, ground := Ground.guard }], guard := some (7, false) }) (v := ?v9) rfl (by kernel_rfl) (by kernel_rfl) (by kernel_rfl) (fun _ _ _ h => h) (Or.inl ⟨by rfl, ?y9⟩) hHeld ?r9
  case y9 => (intro w hSw; (try dsimp only at hSw); go_simp) <;> with_reducible rfl
  try simp only [Act.put, List.setIfInBounds_toArray, List.set_cons_zero, List.set_cons_succ]
  refine wpAnyH_ready (rs := [10]) (by kernel_rfl) (by simp) ?_
  refine AllReadyH.cons (o := { dst := some 56, op := Op.call { callee := Callee.value (Operand.func 42), args := #[Operand.tmp 54, Operand.tmp 55], argTypes := #[3, 22] }, type := 4, pos := "merkle.go:100", after := #[{ on := 8, ground := Ground.data }, { on := 9, ground := Ground.data }, { on := 7, ground := Ground.chain }, { on := 7, ground := Ground.guard }], guard := some (7, false) }) rfl (fun K hK => ?_) AllReadyH.nil
  go_simp
  refine (hsP _ hb1).mono ?_
  rintro e w2 ⟨rfl, hw⟩
  subst hw
  refine hK.out _ _ ?_ (fun _ => ?_)
  · exact hHeld
  clear hK K
  try simp only [Act.put, List.setIfInBounds_toArray, List.set_cons_zero, List.set_cons_succ]
  refine wpAnyH_take (i := 11) (oi := { dst := some 57, op := Op.unOp UnOp.not 4 (Operand.tmp 56), type := 4, pos := "merkle.go:100", after := #[{ on := 10, ground := Ground.data }, { on := 7, ground := Ground.guard }], guard := some (7, false) }) (v := ?v11) rfl (by kernel_rfl) (by kernel_rfl) (by kernel_rfl) (fun _ _ _ h => h) (Or.inl ⟨by rfl, ?y11⟩) hHeld ?r11
  case y11 => (intro w hSw; (try dsimp only at hSw); go_simp) <;> with_reducible rfl
  try simp only [Act.put, List.setIfInBounds_toArray, List.set_cons_zero, List.set_cons_succ]
  refine wpAnyH_take (i := 12) (oi := { dst := some 58, op := Op.pick (Operand.tmp 53) (Operand.const (Value.bool true)) (Operand.tmp 57), type := 4, pos := "merkle.go:100", after := #[{ on := 7, ground := Ground.data }, { on := 11, ground := Ground.data }], guard := none }) (v := ?v12) rfl (by kernel_rfl) (by kernel_rfl) (by kernel_rfl) (fun _ _ _ h => h) (Or.inl ⟨by rfl, ?y12⟩) hHeld ?r12
  case y12 => (intro w hSw; (try dsimp only at hSw); go_simp) <;> with_reducible rfl
  try simp only [Act.put, List.setIfInBounds_toArray, List.set_cons_zero, List.set_cons_succ]
  refine wpAnyH_take (i := 13) (oi := { dst := some 59, op := Op.move (Operand.tmp 58), type := 4, pos := "merkle.go:100", after := #[{ on := 12, ground := Ground.data }, { on := 10, ground := Ground.chain }], guard := none }) (v := ?v13) rfl (by kernel_rfl) (by kernel_rfl) (by kernel_rfl) (fun _ _ _ h => h) (Or.inl ⟨by rfl, ?y13⟩) hHeld ?r13
  case y13 => (intro w hSw; (try dsimp only at hSw); go_simp) <;> with_reducible rfl
  try simp only [Act.put, List.setIfInBounds_toArray, List.set_cons_zero, List.set_cons_succ]
  refine wpAnyH_take (i := 14) (oi := { dst := some 60, op := Op.move (Operand.tmp 0), type := 3, pos := "merkle.go:100", after := #[{ on := 13, ground := Ground.guard }], guard := some (13, false) }) (v := ?v14) rfl (by kernel_rfl) (by kernel_rfl) (by kernel_rfl) (fun _ _ _ h => h) (Or.inl ⟨by rfl, ?y14⟩) hHeld ?r14
  case y14 => (intro w hSw; (try dsimp only at hSw); go_simp) <;> with_reducible rfl
  try simp only [Act.put, List.setIfInBounds_toArray, List.set_cons_zero, List.set_cons_succ]
  refine wpAnyH_take (i := 15) (oi := { dst := some 61, op := Op.load 22 (Operand.tmp 9), type := 22, pos := "merkle.go:100", after := #[{ on := 13, ground := Ground.guard }], guard := some (13, false) }) (v := ?v15) rfl (by kernel_rfl) (by kernel_rfl) (by kernel_rfl) (fun _ _ _ h => h) (Or.inl ⟨by rfl, ?y15⟩) hHeld ?r15
  case y15 => (intro w hSw; (try dsimp only at hSw); go_simp) <;> with_reducible rfl
  try simp only [Act.put, List.setIfInBounds_toArray, List.set_cons_zero, List.set_cons_succ]
  refine wpAnyH_ready (rs := [16]) (by kernel_rfl) (by simp) ?_
  refine AllReadyH.cons (o := { dst := some 62, op := Op.call { callee := Callee.value (Operand.func 42), args := #[Operand.tmp 60, Operand.tmp 61], argTypes := #[3, 22] }, type := 4, pos := "merkle.go:100", after := #[{ on := 14, ground := Ground.data }, { on := 15, ground := Ground.data }, { on := 13, ground := Ground.chain }, { on := 13, ground := Ground.guard }], guard := some (13, false) }) rfl (fun K hK => ?_) AllReadyH.nil
  go_simp
  refine (hsQ _ hb1).mono ?_
  rintro e w2 ⟨rfl, hw⟩
  subst hw
  refine hK.out _ _ ?_ (fun _ => ?_)
  · exact hHeld
  clear hK K
  try simp only [Act.put, List.setIfInBounds_toArray, List.set_cons_zero, List.set_cons_succ]
  refine wpAnyH_take (i := 17) (oi := { dst := some 63, op := Op.unOp UnOp.not 4 (Operand.tmp 62), type := 4, pos := "merkle.go:100", after := #[{ on := 16, ground := Ground.data }, { on := 13, ground := Ground.guard }], guard := some (13, false) }) (v := ?v17) rfl (by kernel_rfl) (by kernel_rfl) (by kernel_rfl) (fun _ _ _ h => h) (Or.inl ⟨by rfl, ?y17⟩) hHeld ?r17
  case y17 => (intro w hSw; (try dsimp only at hSw); go_simp) <;> with_reducible rfl
  try simp only [Act.put, List.setIfInBounds_toArray, List.set_cons_zero, List.set_cons_succ]
  refine wpAnyH_take (i := 18) (oi := { dst := some 64, op := Op.pick (Operand.tmp 59) (Operand.const (Value.bool true)) (Operand.tmp 63), type := 4, pos := "merkle.go:100", after := #[{ on := 13, ground := Ground.data }, { on := 17, ground := Ground.data }], guard := none }) (v := ?v18) rfl (by kernel_rfl) (by kernel_rfl) (by kernel_rfl) (fun _ _ _ h => h) (Or.inl ⟨by rfl, ?y18⟩) hHeld ?r18
  case y18 => (intro w hSw; (try dsimp only at hSw); go_simp) <;> with_reducible rfl
  try simp only [Act.put, List.setIfInBounds_toArray, List.set_cons_zero, List.set_cons_succ]
  refine wpAnyH_done (by kernel_rfl) ?_ _
  have hB := (hX.later hb1).2.2.2.2.1
  clear hsP hsQ hCt v0 v1 v2 v3 hb1 hb1' hX hi' ho' hHeld
  go_wp2
  go_ret2
  exact ⟨rfl, hB⟩

end Go.Proofs.YtichffdkihifpaaDoor
