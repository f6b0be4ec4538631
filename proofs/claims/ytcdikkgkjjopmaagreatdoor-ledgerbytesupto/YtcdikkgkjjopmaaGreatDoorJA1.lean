/- What this text proves: the walks of admit's holds and mayBe, and of the document's within and may, over this program: which parameters may be, but for their arena. What this text proves: the walk of admit's mayBe over this program. -/
import Derived.Test.YtcdikkgkjjopmaaGreatDoorFacts
import Derived.Deep.WholeRow
import Derived.Laws.Tables
namespace Go.Proofs.YtcdikkgkjjopmaaGreatDoor
open Go.RowKit

/-- Whether parameters may be, but for their arena. -/
abbrev mayP (s h mi mk ch ca pg : Int) : Prop := (1 ≤ s ∧ s ≤ 32) ∧ (0 ≤ h ∧ h ≤ 8) ∧ (0 ≤ mi ∧ mi ≤ 24) ∧ (0 ≤ mk ∧ mk ≤ 48) ∧ (0 ≤ ch ∧ ch ≤ 4096) ∧ (0 ≤ ca ∧ ca ≤ 8) ∧ (1 ≤ pg ∧ pg ≤ 32)

set_option maxRecDepth 100000 in
set_option maxHeartbeats 400000 in
theorem holds_any (n lo hi : Int) (w : World) : Calls Tryz.prog 60 #[.agg #[.int .i64 n, .int .i64 lo, .int .i64 hi]] w fun x w' => x = .returned (.bool (decide (lo ≤ n ∧ n ≤ hi))) ∧ Below w.heap.size w w' := by
  have b0 := (Below.refl w.heap.size w).alloc (Nat.le_refl _) (.cells #[.int .i64 n, .int .i64 lo, .int .i64 hi] 100)
  by_cases h1 : lo ≤ n
  · by_cases h2 : n ≤ hi
    · go_enter Tryz.func60, Tryz.ntmps60
      go_wp2
      go_ret
      exact ⟨by simp; omega, b0⟩
    · go_enter Tryz.func60, Tryz.ntmps60
      go_wp2
      go_ret
      exact ⟨by simp; omega, b0⟩
  · go_enter Tryz.func60, Tryz.ntmps60
    go_wp2
    go_ret
    exact ⟨by simp; omega, b0⟩

end Go.Proofs.YtcdikkgkjjopmaaGreatDoor

namespace Go.Proofs.YtcdikkgkjjopmaaGreatDoor
open Go.RowKit

theorem wpList_builds {P : Program} {w : World} {ops : Array Oper} {rest : List Oper} {o : Oper} {a : Act} {Q : Exit → Act → World → Prop} (hgd : o.guard = none) (t : TypeId) (parts : Array (Nat × Operand)) (ho : o.op = .build t parts)
    (C : Array Value) (hb : P.built t (parts.map fun (i, x) => (i, a.eval x)).toList = some C)
    (h : wpList P ops Q rest (a.put o.dst (.agg C)) w) : wpList P ops Q (o :: rest) a w := by
  unfold wpList
  rw [if_pos (by simp [Region.wanted, hgd])]
  refine .inl ?_
  refine wp_build t parts ho (by rw [hb]; rfl) ?_
  rw [hb]
  exact h

/-- A load whose run is known. -/
theorem wpList_loads {P : Program} {w : World} {ops : Array Oper} {rest : List Oper} {o : Oper} {a : Act} {Q : Exit → Act → World → Prop} (hgd : o.guard = none) (t : TypeId) (x : Operand) (ho : o.op = .load t x)
    (v : Value) (hl : (Instr.loadAt t (a.eval x)).run P w = .ok v w) (h : wpList P ops Q rest (a.put o.dst v) w) : wpList P ops Q (o :: rest) a w := by
  unfold wpList
  rw [if_pos (by simp [Region.wanted, hgd])]
  refine .inl ?_
  unfold Oper.wp execOp
  simp only [ho, Sem.run_bind, hl, Result.andThen_ok]
  exact h

/-- An index into an array by value whose run is known. -/
theorem wpList_indexes {P : Program} {w : World} {ops : Array Oper} {rest : List Oper} {o : Oper} {a : Act} {Q : Exit → Act → World → Prop} (hgd : o.guard = none) (t : TypeId) (x i : Operand) (ho : o.op = .index t x i)
    (v : Value) (hl : (Instr.index t (a.eval x) (a.eval i)).run P w = .ok v w) (h : wpList P ops Q rest (a.put o.dst v) w) : wpList P ops Q (o :: rest) a w := by
  unfold wpList
  rw [if_pos (by simp [Region.wanted, hgd])]
  refine .inl ?_
  unfold Oper.wp execOp
  simp only [ho, Sem.run_bind, hl, Result.andThen_ok]
  exact h

theorem idx7 (C : Array Value) (k : Nat) (hk : k < 7) (w : World) : (Instr.index 117 (.agg C) (.int .i64 (k : Int))).run Tryz.prog w = .ok (.agg (C.extract (k * 3) (k * 3 + 3))) w := by
  simp [Instr.index, run_underlying Tryz.underlying117, asIntOf, go_sem]
  intro
  omega

theorem i_bounds : (Tryz.prog.info? 117).map (·.size) = some 21 := by kernel_rfl

set_option maxRecDepth 100000 in
set_option maxHeartbeats 4000000 in
theorem mayBe_any (s h mi mk ch ar ca pg : Int) (w : World) : Calls Tryz.prog 59 #[.agg #[.int .i64 s, .int .i64 h, .int .i64 mi, .int .i64 mk, .int .i64 ch, .int .i64 ar, .int .i64 ca, .int .i64 pg]] w fun x w' => x = .returned (.bool (decide (mayP s h mi mk ch ca pg))) ∧ Below w.heap.size w w' := by
  obtain ⟨R, HR⟩ : ∃ R : Bool, Hid (decide (mayP s h mi mk ch ca pg) = R) := ⟨_, rfl⟩
  rw [HR.out]
  have b0 := (Below.refl w.heap.size w).alloc (Nat.le_refl _) (.cells #[.int .i64 s, .int .i64 h, .int .i64 mi, .int .i64 mk, .int .i64 ch, .int .i64 ar, .int .i64 ca, .int .i64 pg] 23)
  have sz : (w.alloc (.cells #[.int .i64 s, .int .i64 h, .int .i64 mi, .int .i64 mk, .int .i64 ch, .int .i64 ar, .int .i64 ca, .int .i64 pg] 23)).heap.size = w.heap.size + 1 := by simp
  obtain ⟨C, hC⟩ : ∃ C : Array Value, #[.int .i64 s, .int .i64 1, .int .i64 32, .int .i64 h, .int .i64 0, .int .i64 8, .int .i64 mi, .int .i64 0, .int .i64 24, .int .i64 mk, .int .i64 0, .int .i64 48, .int .i64 ch, .int .i64 0, .int .i64 4096, .int .i64 ca, .int .i64 0, .int .i64 8, .int .i64 pg, .int .i64 1, .int .i64 32] = C := ⟨_, rfl⟩
  have hCs : C.size = 21 := by rw [← hC]; rfl
  have hC1 : C.all (·.oneCell') = true := by rw [← hC]; simp [Value.oneCell']
  have hst := run_storeCells_new (P := Tryz.prog) (w.alloc (.cells #[.int .i64 s, .int .i64 h, .int .i64 mi, .int .i64 mk, .int .i64 ch, .int .i64 ar, .int .i64 ca, .int .i64 pg] 23)) 117 #[.int .i64 0, .int .i64 0, .int .i64 0, .int .i64 0, .int .i64 0, .int .i64 0, .int .i64 0, .int .i64 0, .int .i64 0, .int .i64 0, .int .i64 0, .int .i64 0, .int .i64 0, .int .i64 0, .int .i64 0, .int .i64 0, .int .i64 0, .int .i64 0, .int .i64 0, .int .i64 0, .int .i64 0] C (by rw [hCs]; exact i_bounds) (by rw [hCs]; rfl) hC1
  have hld := run_loadAt_new (P := Tryz.prog) (w.alloc (.cells #[.int .i64 s, .int .i64 h, .int .i64 mi, .int .i64 mk, .int .i64 ch, .int .i64 ar, .int .i64 ca, .int .i64 pg] 23)) 117 C 7 100 Tryz.underlying117 (by rw [hCs]; exact i_bounds)
  rw [sz] at hst hld
  have b1 := b0.alloc (by rw [sz]; omega) (.cells C 117)
  clear hC1 sz
  go_enter Tryz.func59, Tryz.ntmps59
  go_wp2_with (first | refine wpList_builds rfl 117 _ rfl C (by rw [← hC]; kernel_rfl) ?_ | refine wpList_loads rfl 117 _ rfl (.agg C) hld ?_)
  go_loopw [29] (fun i wr => ∃ k : Nat, k ≤ 7 ∧ i = .int .i64 (k : Int) ∧ Hid ((0 < k → 1 ≤ s ∧ s ≤ 32) ∧ (1 < k → 0 ≤ h ∧ h ≤ 8) ∧ (2 < k → 0 ≤ mi ∧ mi ≤ 24) ∧ (3 < k → 0 ≤ mk ∧ mk ≤ 48) ∧ (4 < k → 0 ≤ ch ∧ ch ≤ 4096) ∧ (5 < k → 0 ≤ ca ∧ ca ≤ 8) ∧ (6 < k → 1 ≤ pg ∧ pg ≤ 32)) ∧ Below w.heap.size w wr) (fun i _ => 7 - (intOf i).toNat)
  case atStart => exact ⟨0, by omega, rfl, by refine ⟨?_, ?_, ?_, ?_, ?_, ?_, ?_⟩ <;> omega, b1⟩
  case round =>
    obtain ⟨k, hk, rfl, hH, hb⟩ := hrel
    by_cases hlt : k < 7
    · have hlt2 : (k : Int) < 7 := by omega
      have hix := idx7 C k hlt wr
      have hE : ∃ n lo hi : Int, C.extract (k * 3) (k * 3 + 3) = #[.int .i64 n, .int .i64 lo, .int .i64 hi] ∧ ((lo ≤ n ∧ n ≤ hi) → ((0 < k + 1 → 1 ≤ s ∧ s ≤ 32) ∧ (1 < k + 1 → 0 ≤ h ∧ h ≤ 8) ∧ (2 < k + 1 → 0 ≤ mi ∧ mi ≤ 24) ∧ (3 < k + 1 → 0 ≤ mk ∧ mk ≤ 48) ∧ (4 < k + 1 → 0 ≤ ch ∧ ch ≤ 4096) ∧ (5 < k + 1 → 0 ≤ ca ∧ ca ≤ 8) ∧ (6 < k + 1 → 1 ≤ pg ∧ pg ≤ 32))) ∧ (¬ (lo ≤ n ∧ n ≤ hi) → ¬ mayP s h mi mk ch ca pg) := by
        have hq := hH.out
        clear hst hld b0 b1 hix
        have hk7 : k = 0 ∨ k = 1 ∨ k = 2 ∨ k = 3 ∨ k = 4 ∨ k = 5 ∨ k = 6 := by omega
        rcases hk7 with rfl | rfl | rfl | rfl | rfl | rfl | rfl
        · exact ⟨s, 1, 32, by rw [← hC]; simp, fun q => ⟨fun _ => by omega, fun _ => by omega, fun _ => by omega, fun _ => by omega, fun _ => by omega, fun _ => by omega, fun _ => by omega⟩, fun q m => q (by unfold mayP at m; omega)⟩
        · exact ⟨h, 0, 8, by rw [← hC]; simp, fun q => ⟨fun _ => by omega, fun _ => by omega, fun _ => by omega, fun _ => by omega, fun _ => by omega, fun _ => by omega, fun _ => by omega⟩, fun q m => q (by unfold mayP at m; omega)⟩
        · exact ⟨mi, 0, 24, by rw [← hC]; simp, fun q => ⟨fun _ => by omega, fun _ => by omega, fun _ => by omega, fun _ => by omega, fun _ => by omega, fun _ => by omega, fun _ => by omega⟩, fun q m => q (by unfold mayP at m; omega)⟩
        · exact ⟨mk, 0, 48, by rw [← hC]; simp, fun q => ⟨fun _ => by omega, fun _ => by omega, fun _ => by omega, fun _ => by omega, fun _ => by omega, fun _ => by omega, fun _ => by omega⟩, fun q m => q (by unfold mayP at m; omega)⟩
        · exact ⟨ch, 0, 4096, by rw [← hC]; simp, fun q => ⟨fun _ => by omega, fun _ => by omega, fun _ => by omega, fun _ => by omega, fun _ => by omega, fun _ => by omega, fun _ => by omega⟩, fun q m => q (by unfold mayP at m; omega)⟩
        · exact ⟨ca, 0, 8, by rw [← hC]; simp, fun q => ⟨fun _ => by omega, fun _ => by omega, fun _ => by omega, fun _ => by omega, fun _ => by omega, fun _ => by omega, fun _ => by omega⟩, fun q m => q (by unfold mayP at m; omega)⟩
        · exact ⟨pg, 1, 32, by rw [← hC]; simp, fun q => ⟨fun _ => by omega, fun _ => by omega, fun _ => by omega, fun _ => by omega, fun _ => by omega, fun _ => by omega, fun _ => by omega⟩, fun q m => q (by unfold mayP at m; omega)⟩
      obtain ⟨n, lo, hi, hE, hy, hn⟩ := hE
      rw [hE] at hix
      have hA := heap_alloc_new wr (.cells #[.int .i64 n, .int .i64 lo, .int .i64 hi] 100)
      have bA := hb.alloc hb.size (.cells #[.int .i64 n, .int .i64 lo, .int .i64 hi] 100)
      have hc := fun W => holds_any n lo hi W
      have Hy := (show Hid _ from hy)
      have Hn := (show Hid _ from hn)
      clear hy hn hE hC hst hld b0 b1
      by_cases hh : lo ≤ n ∧ n ≤ hi
      · rw [decide_eq_true hh] at hc
        have Hh := (show Hid _ from hh)
        clear hh
        go_wp2_with (first | refine wpList_indexes rfl 117 _ _ rfl _ hix ?_ | (go_at_call 60; refine (hc _).mono ?_; rintro e w' ⟨rfl, hw'⟩))
        go_roundw
        case rel => exact ⟨k + 1, by omega, by simp, Hy.out Hh.out, bA.trans (hw'.mono bA.size)⟩
        case measure => simp [intOf]; omega
      · rw [decide_eq_false hh] at hc
        have Hh := (show Hid _ from hh)
        clear hh
        go_wp2_with (first | refine wpList_indexes rfl 117 _ _ rfl _ hix ?_ | (go_at_call 60; refine (hc _).mono ?_; rintro e w' ⟨rfl, hw'⟩))
        go_ret
        exact ⟨by rw [← HR.out, decide_eq_false (Hn.out Hh.out)]; rfl, bA.trans (hw'.mono bA.size)⟩
    · have hlt2 : ¬ (k : Int) < 7 := by omega
      have H : Hid (mayP s h mi mk ch ca pg) := by
        have := hH.out
        show mayP s h mi mk ch ca pg
        unfold mayP
        omega
      clear hst hld b0 b1 hC hH
      go_wp2
      go_ret
      exact ⟨by rw [← HR.out, decide_eq_true H.out]; rfl, hb⟩

end Go.Proofs.YtcdikkgkjjopmaaGreatDoor
