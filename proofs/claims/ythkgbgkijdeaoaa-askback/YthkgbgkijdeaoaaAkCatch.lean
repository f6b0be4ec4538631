/- What this text proves: the walks of fields' Caught and of the closure that ask.Decode defers, over this program. -/
import Derived.Test.YthkgbgkijdeaoaaAkTr
import Derived.Test.YthkgbgkijdeaoaaAkAwake
import Derived.Recover
namespace Go.Proofs.Ythkgbgkijdeaoaa
open Go.RowKit

set_option maxRecDepth 100000 in
set_option maxHeartbeats 400000 in
theorem caught_nil (w : World) : Calls Try.prog 26 #[.nilIface] w fun x w' => x = .returned (.int .i64 0) ∧ w' = w := by
  go_enter Try.func26, Try.ntmps26
  go_wp2
  go_ret
  exact ⟨rfl, rfl⟩

set_option maxRecDepth 100000 in
set_option maxHeartbeats 400000 in
theorem caught_some (e : Int) (w : World) : Calls Try.prog 26 #[.iface 96 (.int .i64 e)] w fun x w' => x = .returned (.int .i64 e) ∧ w' = w := by
  have hta : ∀ v w, (Instr.typeAssert (.iface 96 v) 20 96 true).run Try.prog w = .ok (.tuple #[v, .bool true]) w := fun _ _ => by kernel_rfl
  go_enter Try.func26, Try.ntmps26
  go_wp2
  go_ret
  exact ⟨rfl, rfl⟩

/-- The error's box. -/
def EB (w : World) (g : Nat) (e : Int) : Prop := w.heap[g]? = some (.cells #[.int .i64 e] 28 (0, 0))
theorem EB.cell {w : World} {g : Nat} {e : Int} (h : EB w g e) : w.cell? ⟨g, 0, none⟩ = some (.int .i64 e) := by
  rw [cell_of_row _ _ _ _ _ _ h]; rfl
theorem EB.free {w : World} {g : Nat} {e : Int} (h : EB w g e) : w.frozen? ⟨g, 0, none⟩ = false := by simp [World.frozen?, show w.heap[g]? = _ from h]
theorem EB.put {w : World} {g : Nat} {e : Int} (h : EB w g e) (e' : Int) : EB (w.setCell ⟨g, 0, none⟩ (.int .i64 e')) g e' := by
  unfold EB
  rw [heap_setCell_same w g 0 _ _ _ h]
  rfl

theorem EB.other {w : World} {g : Nat} {e : Int} (h : EB w g e) (a : Addr) (v : Value) (hne : g ≠ a.block) : EB (w.setCell a v) g e := (Below.heap_setCell w a v g hne).trans h

set_option maxRecDepth 100000 in
set_option maxHeartbeats 2000000 in
theorem catch_idle (gE gA : Nat) (e : Int) (w : World) (h : EB w gE e) :
    CallsD Try.prog 25 #[.pointer (some ⟨gE, 0, none⟩), .pointer (some ⟨gA, 0, none⟩)] .returning w fun x u' w' => x = .returned (.tuple #[]) ∧ u' = .returning ∧ w' = w.setCell ⟨gE, 0, none⟩ (.int .i64 0) := by
  have c0 := h.cell
  have f0 := h.free
  have c1 := (h.put 0).cell
  refine callsD_of_wpS Try.func25 rfl fun c₀ cs hu => ?_
  apply wpS_seq
  apply wpS_region
  simp [wpOpsS, go_sem, recoverD, hu, Try.ntmps25, Exit.thenS]
  refine (caught_nil w).mono ?_
  rintro x w' ⟨rfl, rfl⟩
  simp [go_sem, c0, f0]
  refine wpS_of_wp ?_
  go_wp2
  cases c₀
  simp_all [bodyPostS, results, Try.results25]

/-- A request's cells, all of them noughts. -/
def zeroA : Array Value := #[.int .i64 0, .slice none 0 0, .int .i64 0, .int .i64 0, .int .i64 0, .bool false, .int .i64 0, .int .i64 0, .int .i64 0, .slice none 0 0]

theorem AB.set {w : World} {g : Nat} {cs : Array Value} (h : AB w g cs) (i : Nat) (v : Value) (cs' : Array Value) (e : cs.setIfInBounds i v = cs') : AB (w.setCell ⟨g, i, none⟩ v) g cs' := e ▸ h.put i v

theorem zeroed (base : Nat) (w0 w : World) (gE gA : Nat) (e : Int) (v0 v1 v2 v3 v4 v5 v6 v7 v8 v9 : Value) (hp : EB w gE e) (hA : AB w gA #[v0, v1, v2, v3, v4, v5, v6, v7, v8, v9]) (hne : gE ≠ gA) (h2 : base ≤ gA) (b : Below base w0 w) :
    EB ((((((((((w.setCell ⟨gA, 0, none⟩ (.int .i64 0)).setCell ⟨gA, 1, none⟩ (.slice none 0 0)).setCell ⟨gA, 2, none⟩ (.int .i64 0)).setCell ⟨gA, 3, none⟩ (.int .i64 0)).setCell ⟨gA, 4, none⟩ (.int .i64 0)).setCell ⟨gA, 5, none⟩ (.bool false)).setCell ⟨gA, 6, none⟩ (.int .i64 0)).setCell ⟨gA, 7, none⟩ (.int .i64 0)).setCell ⟨gA, 8, none⟩ (.int .i64 0)).setCell ⟨gA, 9, none⟩ (.slice none 0 0)) gE e ∧ AB ((((((((((w.setCell ⟨gA, 0, none⟩ (.int .i64 0)).setCell ⟨gA, 1, none⟩ (.slice none 0 0)).setCell ⟨gA, 2, none⟩ (.int .i64 0)).setCell ⟨gA, 3, none⟩ (.int .i64 0)).setCell ⟨gA, 4, none⟩ (.int .i64 0)).setCell ⟨gA, 5, none⟩ (.bool false)).setCell ⟨gA, 6, none⟩ (.int .i64 0)).setCell ⟨gA, 7, none⟩ (.int .i64 0)).setCell ⟨gA, 8, none⟩ (.int .i64 0)).setCell ⟨gA, 9, none⟩ (.slice none 0 0)) gA zeroA ∧ Below base w0 ((((((((((w.setCell ⟨gA, 0, none⟩ (.int .i64 0)).setCell ⟨gA, 1, none⟩ (.slice none 0 0)).setCell ⟨gA, 2, none⟩ (.int .i64 0)).setCell ⟨gA, 3, none⟩ (.int .i64 0)).setCell ⟨gA, 4, none⟩ (.int .i64 0)).setCell ⟨gA, 5, none⟩ (.bool false)).setCell ⟨gA, 6, none⟩ (.int .i64 0)).setCell ⟨gA, 7, none⟩ (.int .i64 0)).setCell ⟨gA, 8, none⟩ (.int .i64 0)).setCell ⟨gA, 9, none⟩ (.slice none 0 0)) := by
  have a0 := hA.set 0 (.int .i64 0) #[.int .i64 0, v1, v2, v3, v4, v5, v6, v7, v8, v9] rfl
  have p0 := hp.other ⟨gA, 0, none⟩ (.int .i64 0) hne
  have b0 := b.setCell (p := ⟨gA, 0, none⟩) h2 (.int .i64 0)
  have a1 := a0.set 1 (.slice none 0 0) #[.int .i64 0, .slice none 0 0, v2, v3, v4, v5, v6, v7, v8, v9] rfl
  have p1 := p0.other ⟨gA, 1, none⟩ (.slice none 0 0) hne
  have b1 := b0.setCell (p := ⟨gA, 1, none⟩) h2 (.slice none 0 0)
  have a2 := a1.set 2 (.int .i64 0) #[.int .i64 0, .slice none 0 0, .int .i64 0, v3, v4, v5, v6, v7, v8, v9] rfl
  have p2 := p1.other ⟨gA, 2, none⟩ (.int .i64 0) hne
  have b2 := b1.setCell (p := ⟨gA, 2, none⟩) h2 (.int .i64 0)
  have a3 := a2.set 3 (.int .i64 0) #[.int .i64 0, .slice none 0 0, .int .i64 0, .int .i64 0, v4, v5, v6, v7, v8, v9] rfl
  have p3 := p2.other ⟨gA, 3, none⟩ (.int .i64 0) hne
  have b3 := b2.setCell (p := ⟨gA, 3, none⟩) h2 (.int .i64 0)
  have a4 := a3.set 4 (.int .i64 0) #[.int .i64 0, .slice none 0 0, .int .i64 0, .int .i64 0, .int .i64 0, v5, v6, v7, v8, v9] rfl
  have p4 := p3.other ⟨gA, 4, none⟩ (.int .i64 0) hne
  have b4 := b3.setCell (p := ⟨gA, 4, none⟩) h2 (.int .i64 0)
  have a5 := a4.set 5 (.bool false) #[.int .i64 0, .slice none 0 0, .int .i64 0, .int .i64 0, .int .i64 0, .bool false, v6, v7, v8, v9] rfl
  have p5 := p4.other ⟨gA, 5, none⟩ (.bool false) hne
  have b5 := b4.setCell (p := ⟨gA, 5, none⟩) h2 (.bool false)
  have a6 := a5.set 6 (.int .i64 0) #[.int .i64 0, .slice none 0 0, .int .i64 0, .int .i64 0, .int .i64 0, .bool false, .int .i64 0, v7, v8, v9] rfl
  have p6 := p5.other ⟨gA, 6, none⟩ (.int .i64 0) hne
  have b6 := b5.setCell (p := ⟨gA, 6, none⟩) h2 (.int .i64 0)
  have a7 := a6.set 7 (.int .i64 0) #[.int .i64 0, .slice none 0 0, .int .i64 0, .int .i64 0, .int .i64 0, .bool false, .int .i64 0, .int .i64 0, v8, v9] rfl
  have p7 := p6.other ⟨gA, 7, none⟩ (.int .i64 0) hne
  have b7 := b6.setCell (p := ⟨gA, 7, none⟩) h2 (.int .i64 0)
  have a8 := a7.set 8 (.int .i64 0) #[.int .i64 0, .slice none 0 0, .int .i64 0, .int .i64 0, .int .i64 0, .bool false, .int .i64 0, .int .i64 0, .int .i64 0, v9] rfl
  have p8 := p7.other ⟨gA, 8, none⟩ (.int .i64 0) hne
  have b8 := b7.setCell (p := ⟨gA, 8, none⟩) h2 (.int .i64 0)
  have a9 := a8.set 9 (.slice none 0 0) #[.int .i64 0, .slice none 0 0, .int .i64 0, .int .i64 0, .int .i64 0, .bool false, .int .i64 0, .int .i64 0, .int .i64 0, .slice none 0 0] rfl
  have p9 := p8.other ⟨gA, 9, none⟩ (.slice none 0 0) hne
  have b9 := b8.setCell (p := ⟨gA, 9, none⟩) h2 (.slice none 0 0)
  exact ⟨p9, a9, b9⟩

theorem array10A {α : Type} {cs : Array α} (h : cs.size = 10) : ∃ c0 c1 c2 c3 c4 c5 c6 c7 c8 c9, cs = #[c0, c1, c2, c3, c4, c5, c6, c7, c8, c9] := by
  obtain ⟨l⟩ := cs
  match l, h with
  | [c0, c1, c2, c3, c4, c5, c6, c7, c8, c9], _ => exact ⟨c0, c1, c2, c3, c4, c5, c6, c7, c8, c9, rfl⟩

set_option maxRecDepth 100000 in
set_option maxHeartbeats 4000000 in
theorem catch_panicking (base gE gA : Nat) (z e : Int) (he : e ≠ 0) (cs : Array Value) (w : World) (h : EB w gE z) (hA : AB w gA cs) (hs : cs.size = 10) (h1 : base ≤ gE) (h2 : base ≤ gA) :
    CallsD Try.prog 25 #[.pointer (some ⟨gE, 0, none⟩), .pointer (some ⟨gA, 0, none⟩)] (.panicking (thrown e)) w fun x u' w' =>
      x = .returned (.tuple #[]) ∧ u' = .panicking [{ v := .iface 96 (.int .i64 e), recovered := true }] ∧ EB w' gE e ∧ AB w' gA zeroA ∧ Below base w w' := by
  have c0 := h.cell
  have f0 := h.free
  have hp := h.put e
  have c1 := hp.cell
  have hne : gE ≠ gA := by
    rintro rfl
    have := h.symm.trans hA
    simp only [Option.some.injEq, Obj.cells.injEq] at this
    exact absurd this.2.1 (by decide)
  have hA1 := hA.other ⟨gE, 0, none⟩ (.int .i64 e) (Ne.symm hne)
  obtain ⟨v0, v1, v2, v3, v4, v5, v6, v7, v8, v9, rfl⟩ := array10A hs
  obtain ⟨d0, d1, d2, d3, d4, d5, d6, d7, d8, d9⟩ := ask_cells hA1
  have fz := fun i => hA1.free i
  have b1 := (Below.refl base w).setCell (p := ⟨gE, 0, none⟩) h1 (.int .i64 e)
  refine callsD_of_wpS Try.func25 rfl fun c₀ cs hu => ?_
  apply wpS_seq
  apply wpS_region
  simp [wpOpsS, go_sem, recoverD, hu, Try.ntmps25, Exit.thenS, thrown]
  refine (caught_some e w).mono ?_
  rintro x w' ⟨rfl, rfl⟩
  simp [go_sem, c0, f0]
  refine wpS_of_wp ?_
  go_wp2
  have fin := zeroed base w' _ gE gA e v0 v1 v2 v3 v4 v5 v6 v7 v8 v9 hp hA1 hne h2 b1
  clear d0 d1 d2 d3 d4 d5 d6 d7 d8 d9 fz hA1 hA hp c0 c1 f0 h b1
  revert fin
  generalize (((((((((((w'.setCell ⟨gE, 0, none⟩ (.int .i64 e)).setCell ⟨gA, 0, none⟩ (.int .i64 0)).setCell ⟨gA, 1, none⟩ (.slice none 0 0)).setCell ⟨gA, 2, none⟩ (.int .i64 0)).setCell ⟨gA, 3, none⟩ (.int .i64 0)).setCell ⟨gA, 4, none⟩ (.int .i64 0)).setCell ⟨gA, 5, none⟩ (.bool false)).setCell ⟨gA, 6, none⟩ (.int .i64 0)).setCell ⟨gA, 7, none⟩ (.int .i64 0)).setCell ⟨gA, 8, none⟩ (.int .i64 0)).setCell ⟨gA, 9, none⟩ (.slice none 0 0)) = W
  intro fin
  obtain ⟨f1, f2, f3⟩ := fin
  cases c₀
  simp_all [bodyPostS, results, Try.results25]

end Go.Proofs.Ythkgbgkijdeaoaa
