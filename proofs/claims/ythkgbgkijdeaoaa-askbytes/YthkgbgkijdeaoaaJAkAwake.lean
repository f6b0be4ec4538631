/- What this text proves: the walk of annalslaw25.awake over this program: it answers true. -/
import Derived.Test.YthkgbgkijdeaoaaJF1
import Derived.Test.YthkgbgkijdeaoaaEqual
import Derived.ChangeKeysEq
namespace Go.Proofs.Ythkgbgkijdeaoaa
open Go.RowKit

set_option maxRecDepth 100000 in
set_option maxHeartbeats 2000000 in
/-- A request of a kind that has nothing: all of it is shown. -/
theorem through_none (v : Value) (g : Nat) (k : Int) (w : World) (hc : w.cell? ⟨g, 0, none⟩ = some (.int .i64 k)) (h8 : k = 8) :
    Calls Try.prog 17 #[v, .pointer (some ⟨g, 0, none⟩)] w fun e w' => e = .returned (.bool true) ∧ w' = w := by
  have b8 : (k == 8) = true := by rw [h8]; rfl
  have h1 : ¬ k = 1 := by omega
  have h2 : ¬ k = 2 := by omega
  have h3 : ¬ k = 3 := by omega
  have h4 : ¬ k = 4 := by omega
  have h5 : ¬ k = 5 := by omega
  have h6 : ¬ k = 6 := by omega
  have h7 : ¬ k = 7 := by omega
  have h10 : ¬ k = 10 := by omega
  clear h8
  go_enter Try.func17, Try.ntmps17
  go_wp2
  go_ret
  exact ⟨rfl, rfl⟩

theorem i_intA : (Try.prog.info? 3).map (fun i => (i.zero, i.size, i.bytes)) = some (some (.int .i64 0), 1, 8) := by kernel_rfl
theorem c_intA : Try.prog.cellsOf 3 = 1 := by kernel_rfl
theorem k_intA : Try.prog.plainKey 3 = true := by kernel_rfl

theorem eq_step (xs ys : Array Value) (k : Nat) (is : List Nat) (x y : Int) (w : World) (hx : xs[k]? = some (.int .i64 x)) (hy : ys[k]? = some (.int .i64 y)) :
    (Op.eqItems 9999 3 (Try.prog.cellsOf 3) xs ys (k :: is)).run Try.prog w = if (x == y) = true then (Op.eqItems 9999 3 (Try.prog.cellsOf 3) xs ys is).run Try.prog w else .ok false w := by
  have hp : ∀ (cs : Array Value) (x : Int), cs[k]? = some (.int .i64 x) → (part 3 cs (k * Try.prog.cellsOf 3)).run Try.prog w = .ok (.int .i64 x) w := by
    intro cs x h
    rw [c_intA, Nat.mul_one]
    exact run_part_plain w k_intA h
  have hq : (Op.equalIn 9999 3 (.int .i64 x) (.int .i64 y)).run Try.prog w = .ok (x == y) w := run_equalIn_int w 9998 3 _ _ x y Try.underlying3
  simp only [Op.eqItems, Sem.run_bind, hp xs x hx, hp ys y hy, hq, Result.andThen_ok]
  cases x == y <;> simp

set_option maxRecDepth 100000 in
set_option maxHeartbeats 2000000 in
/-- Six numbers and six noughts, held against each other. -/
theorem eq_nums (a b c d e f : Int) (w : World) :
    (Op.equalIn 10000 87 (.agg #[.int .i64 a, .int .i64 b, .int .i64 c, .int .i64 d, .int .i64 e, .int .i64 f]) (.agg #[.int .i64 0, .int .i64 0, .int .i64 0, .int .i64 0, .int .i64 0, .int .i64 0])).run Try.prog w = .ok (a == 0 && (b == 0 && (c == 0 && (d == 0 && (e == 0 && f == 0))))) w := by
  obtain ⟨i, hi, _⟩ := info_parts i_intA
  rw [run_equalIn_array w 9999 _ _ Try.underlying87 hi]
  show (Op.eqItems 9999 3 (Try.prog.cellsOf 3) _ _ [0, 1, 2, 3, 4, 5]).run _ w = _
  rw [eq_step _ _ 0 _ a 0 w rfl rfl, eq_step _ _ 1 _ b 0 w rfl rfl, eq_step _ _ 2 _ c 0 w rfl rfl, eq_step _ _ 3 _ d 0 w rfl rfl, eq_step _ _ 4 _ e 0 w rfl rfl, eq_step _ _ 5 _ f 0 w rfl rfl]
  cases a == 0 <;> cases b == 0 <;> cases c == 0 <;> cases d == 0 <;> cases e == 0 <;> cases f == 0 <;> simp [Op.eqItems]

set_option maxRecDepth 100000 in
set_option maxHeartbeats 2000000 in
/-- A request that has nothing is blank. -/
theorem blank_none (k : Int) (w : World) :
    Calls Try.prog 18 #[.agg #[.int .i64 k, .slice none 0 0, .int .i64 0, .int .i64 0, .int .i64 0, .bool false, .int .i64 0, .int .i64 0, .int .i64 0, .slice none 0 0]] w fun e w' => e = .returned (.bool true) ∧ Below w.heap.size w w' := by
  have hE := eq_nums 0 0 0 0 0 0
  rw [show ((0 : Int) == 0 && ((0 : Int) == 0 && ((0 : Int) == 0 && ((0 : Int) == 0 && ((0 : Int) == 0 && (0 : Int) == 0))))) = true from rfl] at hE
  go_enter Try.func18, Try.ntmps18
  go_wp2
  go_ret
  exact ⟨rfl, ((Below.refl _ w).alloc (Nat.le_refl _) _).alloc ((Below.refl _ w).alloc (Nat.le_refl _) _).size _⟩

theorem akBytes : ([] : List UInt8) ++ numL (clampN 8) = [1, 8] := by decide +kernel

theorem alloc3 (w : World) (o1 o2 o3 : Obj) : Below w.heap.size w (((w.alloc o1).alloc o2).alloc o3) ∧ (((w.alloc o1).alloc o2).alloc o3).heap[w.heap.size]? = some o1 ∧ (((w.alloc o1).alloc o2).alloc o3).heap[w.heap.size + 1]? = some o2 ∧ (((w.alloc o1).alloc o2).alloc o3).heap[w.heap.size + 1 + 1]? = some o3 ∧ w.heap.size + 1 + 1 + 1 = (((w.alloc o1).alloc o2).alloc o3).heap.size := by
  have e1 : (w.alloc o1).heap.size = w.heap.size + 1 := World.size_alloc _ _
  have e2 : ((w.alloc o1).alloc o2).heap.size = w.heap.size + 1 + 1 := by rw [World.size_alloc, e1]
  have e3 : (((w.alloc o1).alloc o2).alloc o3).heap.size = w.heap.size + 1 + 1 + 1 := by rw [World.size_alloc, e2]
  have b1 := (Below.refl w.heap.size w).alloc (Nat.le_refl _) o1
  have b2 := b1.alloc b1.size o2
  have b3 := b2.alloc b2.size o3
  refine ⟨b3, ?_, ?_, ?_, e3.symm⟩
  · rw [Below.heap_alloc _ _ _ (by omega), Below.heap_alloc _ _ _ (by omega)]; exact heap_alloc_new w o1
  · rw [Below.heap_alloc _ _ _ (by omega), ← e1]; exact heap_alloc_new _ o2
  · rw [← e2]; exact heap_alloc_new _ o3

/-- A request's ten cells. -/
theorem ask_cells {w : World} {g : Nat} {v0 v1 v2 v3 v4 v5 v6 v7 v8 v9 : Value} {T : TypeId} (h : w.heap[g]? = some (.cells #[v0, v1, v2, v3, v4, v5, v6, v7, v8, v9] T (0, 0))) :
    w.cell? ⟨g, 0, none⟩ = some v0 ∧ w.cell? ⟨g, 1, none⟩ = some v1 ∧ w.cell? ⟨g, 2, none⟩ = some v2 ∧ w.cell? ⟨g, 3, none⟩ = some v3 ∧ w.cell? ⟨g, 4, none⟩ = some v4 ∧ w.cell? ⟨g, 5, none⟩ = some v5 ∧ w.cell? ⟨g, 6, none⟩ = some v6 ∧ w.cell? ⟨g, 7, none⟩ = some v7 ∧ w.cell? ⟨g, 8, none⟩ = some v8 ∧ w.cell? ⟨g, 9, none⟩ = some v9 := by
  refine ⟨?_, ?_, ?_, ?_, ?_, ?_, ?_, ?_, ?_, ?_⟩ <;> (rw [cell_of_row _ _ _ _ _ _ h]; rfl)

set_option maxRecDepth 100000 in
set_option maxHeartbeats 4000000 in
/-- A request to evict, written. -/
theorem encode_none (w : World) :
    Calls Try.prog 8 #[.agg #[.int .i64 8, .slice none 0 0, .int .i64 0, .int .i64 0, .int .i64 0, .bool false, .int .i64 0, .int .i64 0, .int .i64 0, .slice none 0 0]] w fun e w' => ∃ v, e = .returned (.tuple #[v, .int .i64 0]) ∧ HB w' v [1, 8] ∧ Below w.heap.size w w' := by
  have hT := fun v g w hc => through_none v g 8 w hc rfl
  have hB := fun w => blank_none 8 w
  obtain ⟨bA, a0, a1, a2, a3⟩ := alloc3 w (.cells #[.int .i64 8, .slice none 0 0, .int .i64 0, .int .i64 0, .int .i64 0, .bool false, .int .i64 0, .int .i64 0, .int .i64 0, .slice none 0 0] 25) (.cells #[.bool false] 42) (.cells #[.int .i64 8, .slice none 0 0, .int .i64 0, .int .i64 0, .int .i64 0, .bool false, .int .i64 0, .int .i64 0, .int .i64 0, .slice none 0 0] 25)
  obtain ⟨wA, hWA⟩ : ∃ x, x = (((w.alloc (.cells #[.int .i64 8, .slice none 0 0, .int .i64 0, .int .i64 0, .int .i64 0, .bool false, .int .i64 0, .int .i64 0, .int .i64 0, .slice none 0 0] 25)).alloc (.cells #[.bool false] 42)).alloc (.cells #[.int .i64 8, .slice none 0 0, .int .i64 0, .int .i64 0, .int .i64 0, .bool false, .int .i64 0, .int .i64 0, .int .i64 0, .slice none 0 0] 25)) := ⟨_, rfl⟩
  rw [← hWA] at bA a0 a1 a2 a3
  have HWA : Hid (wA = (((w.alloc (.cells #[.int .i64 8, .slice none 0 0, .int .i64 0, .int .i64 0, .int .i64 0, .bool false, .int .i64 0, .int .i64 0, .int .i64 0, .slice none 0 0] 25)).alloc (.cells #[.bool false] 42)).alloc (.cells #[.int .i64 8, .slice none 0 0, .int .i64 0, .int .i64 0, .int .i64 0, .bool false, .int .i64 0, .int .i64 0, .int .i64 0, .slice none 0 0] 25))) := hWA
  have HA3 : Hid (w.heap.size + 1 + 1 + 1 = wA.heap.size) := a3
  have hT1 := hT (.iface 44 (.pointer (some ⟨w.heap.size + 1, 0, none⟩))) (w.heap.size + 1 + 1) wA (by rw [cell_of_row _ _ _ _ _ _ a2]; rfl)
  rw [hWA] at hT1
  clear hWA a3
  go_enter Try.func8, Try.ntmps8
  go_wp2_with fail
  refine hT1.mono ?_
  rintro e w1 ⟨rfl, e1⟩
  have e2 : w1 = wA := e1.trans HWA.out.symm
  clear e1 hT1
  subst e2
  have c0 : w1.cell? ⟨w.heap.size + 1, 0, none⟩ = some (.bool false) := by rw [cell_of_row _ _ _ _ _ _ a1]; rfl
  obtain ⟨d0, d1, d2, d3, d4, d5, d6, d7, d8, d9⟩ := ask_cells a2
  clear HWA
  go_wp2_with fail
  refine (hB w1).mono ?_
  rintro e w2 ⟨rfl, hb2⟩
  have lt0 : w.heap.size < w1.heap.size := (Array.getElem?_eq_some_iff.1 a0).1
  have a0' := (hb2.block _ lt0).trans a0
  have bB := bA.trans (hb2.mono bA.size)
  clear hB c0 d0 d1 d2 d3 d4 d5 d6 d7 d8 d9 a1 a2 HA3 bA hb2 a0
  have lt2 : w.heap.size < w2.heap.size := (Array.getElem?_eq_some_iff.1 a0').1
  have hW := WRT.made 49 w2 w2.heap.size (Nat.le_refl _)
  have bC := (Below.refl w2.heap.size w2).alloc (Nat.le_refl _) (.cells #[.slice none 0 0] 49)
  have aC := (bC.block _ lt2).trans a0'
  obtain ⟨wC, hwC⟩ : ∃ x, x = w2.alloc (.cells #[.slice none 0 0] 49) := ⟨_, rfl⟩
  rw [← hwC] at hW bC aC
  have hN := wnumber_any 49 (by decide) w2.heap.size w2.heap.size ⟨w.heap.size, 0, none⟩ 8 2147483648 [] wC hW (Nat.le_refl _) (by rw [cell_of_row _ _ _ _ _ _ aC]; rfl) (by simp)
  rw [akBytes, hwC] at hN
  have HwC : Hid (wC = w2.alloc (.cells #[.slice none 0 0] 49)) := hwC
  clear hwC hW
  go_wp2_with fail
  refine hN.mono ?_
  rintro e w3 ⟨rfl, hW3⟩
  rw [← HwC.out] at hW3
  obtain ⟨hW3, hb3, ht3⟩ := hW3
  have a3 := ht3 _ _ _ _ aC (by decide) (by decide)
  have b3 := bC.trans hb3
  clear hN HwC hb3 ht3 aC bC a0'
  have hT3 := hT (.iface 52 (.pointer (some ⟨w2.heap.size, 0, none⟩))) w.heap.size w3 (by rw [cell_of_row _ _ _ _ _ _ a3]; rfl)
  clear hT
  go_wp2_with fail
  refine hT3.mono ?_
  rintro e w4 ⟨rfl, rfl⟩
  have hR := written_any 49 _ _ _ w4 hW3
  clear hT3
  go_wp2_with fail
  refine hR.mono ?_
  rintro e w5 ⟨p5, c5, rfl, hown, rfl⟩
  have hbE := bB.trans (b3.mono bB.size)
  have hH := HB.of_owns hown
  clear hR hown hW3 a3 b3 bB
  go_wp2
  go_ret2
  exact ⟨_, rfl, hH, hbE⟩

set_option maxRecDepth 100000 in
set_option maxHeartbeats 4000000 in
theorem akAwake_any (w : World) : Calls Try.prog 6 #[] w fun e w' => e = .returned (.bool true) ∧ Below w.heap.size w w' := by
  have hE := encode_none w
  go_enter Try.func6, Try.ntmps6
  go_wp2_with fail
  refine hE.mono ?_
  rintro e w1 ⟨v, rfl, hv, hb1⟩
  clear hE
  obtain ⟨p, c, rfl⟩ := hv.shape
  have bC := (Below.refl w1.heap.size w1).alloc (Nat.le_refl _) (.cells #[.int .u8 1, .int .u8 8] 5)
  have hL : HB (w1.alloc (.cells #[.int .u8 1, .int .u8 8] 5)) (.slice (some ⟨w1.heap.size, 0, none⟩) 2 2) [1, 8] := HB.lit w1 5 _ _ 2 rfl rfl (by unfold maxLen; omega)
  have hQ := equal_t _ _ [1, 8] [1, 8] _ (hv.later bC) hL rfl
  have bD := hb1.trans (bC.mono hb1.size)
  clear hL hv bC
  go_wp2_with fail
  refine hQ.mono ?_
  rintro e w2 ⟨rfl, hw2⟩
  have bE : Below w.heap.size w w2 := by rw [hw2]; exact bD
  clear hw2 hQ bD hb1
  go_wp2
  go_ret
  exact ⟨rfl, bE⟩

end Go.Proofs.Ythkgbgkijdeaoaa
