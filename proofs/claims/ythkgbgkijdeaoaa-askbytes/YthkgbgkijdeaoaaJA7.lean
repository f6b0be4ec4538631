/- What this text proves: the walks of fields' Caught and of the closure that ask.Decode defers, over this program. What this text proves: the walk of ask.Decode over this program: what through makes of what is left is told by a hypothesis. What this text proves: the walk of ask.Decode over this program, of any bytes. -/
import Derived.Test.YthkgbgkijdeaoaaJAkTr
import Derived.Test.YthkgbgkijdeaoaaJAkAwake
import Derived.Recover
namespace Go.Proofs.Ythkgbgkijdeaoaa
open Go.RowKit

set_option maxRecDepth 100000 in
set_option maxHeartbeats 400000 in
theorem caught_nil (w : World) : Calls Try.prog 26 #[.nilIface] w fun x w' => x = .returned (.int .i64 0) ∧ w' = w := by
  go_enter Try.func26, Try.ntmps26
  go_wp2
  go_ret
  exact ⟨rfl, rfl⟩

set_option maxRecDepth 100000 in
set_option maxHeartbeats 400000 in
theorem caught_some (e : Int) (w : World) : Calls Try.prog 26 #[.iface 96 (.int .i64 e)] w fun x w' => x = .returned (.int .i64 e) ∧ w' = w := by
  have hta : ∀ v w, (Instr.typeAssert (.iface 96 v) 20 96 true).run Try.prog w = .ok (.tuple #[v, .bool true]) w := fun _ _ => by kernel_rfl
  go_enter Try.func26, Try.ntmps26
  go_wp2
  go_ret
  exact ⟨rfl, rfl⟩

/-- The error's box. -/
def EB (w : World) (g : Nat) (e : Int) : Prop := w.heap[g]? = some (.cells #[.int .i64 e] 28 (0, 0))
theorem EB.cell {w : World} {g : Nat} {e : Int} (h : EB w g e) : w.cell? ⟨g, 0, none⟩ = some (.int .i64 e) := by
  rw [cell_of_row _ _ _ _ _ _ h]; rfl
theorem EB.free {w : World} {g : Nat} {e : Int} (h : EB w g e) : w.frozen? ⟨g, 0, none⟩ = false := by simp [World.frozen?, show w.heap[g]? = _ from h]
theorem EB.put {w : World} {g : Nat} {e : Int} (h : EB w g e) (e' : Int) : EB (w.setCell ⟨g, 0, none⟩ (.int .i64 e')) g e' := by
  unfold EB
  rw [heap_setCell_same w g 0 _ _ _ h]
  rfl

theorem EB.other {w : World} {g : Nat} {e : Int} (h : EB w g e) (a : Addr) (v : Value) (hne : g ≠ a.block) : EB (w.setCell a v) g e := (Below.heap_setCell w a v g hne).trans h

set_option maxRecDepth 100000 in
set_option maxHeartbeats 2000000 in
theorem catch_idle (gE gA : Nat) (e : Int) (w : World) (h : EB w gE e) :
    CallsD Try.prog 25 #[.pointer (some ⟨gE, 0, none⟩), .pointer (some ⟨gA, 0, none⟩)] .returning w fun x u' w' => x = .returned (.tuple #[]) ∧ u' = .returning ∧ w' = w.setCell ⟨gE, 0, none⟩ (.int .i64 0) := by
  have c0 := h.cell
  have f0 := h.free
  have c1 := (h.put 0).cell
  refine callsD_of_wpS Try.func25 rfl fun c₀ cs hu => ?_
  apply wpS_seq
  apply wpS_region
  simp [wpOpsS, go_sem, recoverD, hu, Try.ntmps25, Exit.thenS]
  refine (caught_nil w).mono ?_
  rintro x w' ⟨rfl, rfl⟩
  simp [go_sem, c0, f0]
  refine wpS_of_wp ?_
  go_wp2
  cases c₀
  simp_all [bodyPostS, results, Try.results25]

/-- A request's cells, all of them noughts. -/
def zeroA : Array Value := #[.int .i64 0, .slice none 0 0, .int .i64 0, .int .i64 0, .int .i64 0, .bool false, .int .i64 0, .int .i64 0, .int .i64 0, .slice none 0 0]

theorem AB.set {w : World} {g : Nat} {cs : Array Value} (h : AB w g cs) (i : Nat) (v : Value) (cs' : Array Value) (e : cs.setIfInBounds i v = cs') : AB (w.setCell ⟨g, i, none⟩ v) g cs' := e ▸ h.put i v

theorem zeroed (base : Nat) (w0 w : World) (gE gA : Nat) (e : Int) (v0 v1 v2 v3 v4 v5 v6 v7 v8 v9 : Value) (hp : EB w gE e) (hA : AB w gA #[v0, v1, v2, v3, v4, v5, v6, v7, v8, v9]) (hne : gE ≠ gA) (h2 : base ≤ gA) (b : Below base w0 w) :
    EB ((((((((((w.setCell ⟨gA, 0, none⟩ (.int .i64 0)).setCell ⟨gA, 1, none⟩ (.slice none 0 0)).setCell ⟨gA, 2, none⟩ (.int .i64 0)).setCell ⟨gA, 3, none⟩ (.int .i64 0)).setCell ⟨gA, 4, none⟩ (.int .i64 0)).setCell ⟨gA, 5, none⟩ (.bool false)).setCell ⟨gA, 6, none⟩ (.int .i64 0)).setCell ⟨gA, 7, none⟩ (.int .i64 0)).setCell ⟨gA, 8, none⟩ (.int .i64 0)).setCell ⟨gA, 9, none⟩ (.slice none 0 0)) gE e ∧ AB ((((((((((w.setCell ⟨gA, 0, none⟩ (.int .i64 0)).setCell ⟨gA, 1, none⟩ (.slice none 0 0)).setCell ⟨gA, 2, none⟩ (.int .i64 0)).setCell ⟨gA, 3, none⟩ (.int .i64 0)).setCell ⟨gA, 4, none⟩ (.int .i64 0)).setCell ⟨gA, 5, none⟩ (.bool false)).setCell ⟨gA, 6, none⟩ (.int .i64 0)).setCell ⟨gA, 7, none⟩ (.int .i64 0)).setCell ⟨gA, 8, none⟩ (.int .i64 0)).setCell ⟨gA, 9, none⟩ (.slice none 0 0)) gA zeroA ∧ Below base w0 ((((((((((w.setCell ⟨gA, 0, none⟩ (.int .i64 0)).setCell ⟨gA, 1, none⟩ (.slice none 0 0)).setCell ⟨gA, 2, none⟩ (.int .i64 0)).setCell ⟨gA, 3, none⟩ (.int .i64 0)).setCell ⟨gA, 4, none⟩ (.int .i64 0)).setCell ⟨gA, 5, none⟩ (.bool false)).setCell ⟨gA, 6, none⟩ (.int .i64 0)).setCell ⟨gA, 7, none⟩ (.int .i64 0)).setCell ⟨gA, 8, none⟩ (.int .i64 0)).setCell ⟨gA, 9, none⟩ (.slice none 0 0)) := by
  have a0 := hA.set 0 (.int .i64 0) #[.int .i64 0, v1, v2, v3, v4, v5, v6, v7, v8, v9] rfl
  have p0 := hp.other ⟨gA, 0, none⟩ (.int .i64 0) hne
  have b0 := b.setCell (p := ⟨gA, 0, none⟩) h2 (.int .i64 0)
  have a1 := a0.set 1 (.slice none 0 0) #[.int .i64 0, .slice none 0 0, v2, v3, v4, v5, v6, v7, v8, v9] rfl
  have p1 := p0.other ⟨gA, 1, none⟩ (.slice none 0 0) hne
  have b1 := b0.setCell (p := ⟨gA, 1, none⟩) h2 (.slice none 0 0)
  have a2 := a1.set 2 (.int .i64 0) #[.int .i64 0, .slice none 0 0, .int .i64 0, v3, v4, v5, v6, v7, v8, v9] rfl
  have p2 := p1.other ⟨gA, 2, none⟩ (.int .i64 0) hne
  have b2 := b1.setCell (p := ⟨gA, 2, none⟩) h2 (.int .i64 0)
  have a3 := a2.set 3 (.int .i64 0) #[.int .i64 0, .slice none 0 0, .int .i64 0, .int .i64 0, v4, v5, v6, v7, v8, v9] rfl
  have p3 := p2.other ⟨gA, 3, none⟩ (.int .i64 0) hne
  have b3 := b2.setCell (p := ⟨gA, 3, none⟩) h2 (.int .i64 0)
  have a4 := a3.set 4 (.int .i64 0) #[.int .i64 0, .slice none 0 0, .int .i64 0, .int .i64 0, .int .i64 0, v5, v6, v7, v8, v9] rfl
  have p4 := p3.other ⟨gA, 4, none⟩ (.int .i64 0) hne
  have b4 := b3.setCell (p := ⟨gA, 4, none⟩) h2 (.int .i64 0)
  have a5 := a4.set 5 (.bool false) #[.int .i64 0, .slice none 0 0, .int .i64 0, .int .i64 0, .int .i64 0, .bool false, v6, v7, v8, v9] rfl
  have p5 := p4.other ⟨gA, 5, none⟩ (.bool false) hne
  have b5 := b4.setCell (p := ⟨gA, 5, none⟩) h2 (.bool false)
  have a6 := a5.set 6 (.int .i64 0) #[.int .i64 0, .slice none 0 0, .int .i64 0, .int .i64 0, .int .i64 0, .bool false, .int .i64 0, v7, v8, v9] rfl
  have p6 := p5.other ⟨gA, 6, none⟩ (.int .i64 0) hne
  have b6 := b5.setCell (p := ⟨gA, 6, none⟩) h2 (.int .i64 0)
  have a7 := a6.set 7 (.int .i64 0) #[.int .i64 0, .slice none 0 0, .int .i64 0, .int .i64 0, .int .i64 0, .bool false, .int .i64 0, .int .i64 0, v8, v9] rfl
  have p7 := p6.other ⟨gA, 7, none⟩ (.int .i64 0) hne
  have b7 := b6.setCell (p := ⟨gA, 7, none⟩) h2 (.int .i64 0)
  have a8 := a7.set 8 (.int .i64 0) #[.int .i64 0, .slice none 0 0, .int .i64 0, .int .i64 0, .int .i64 0, .bool false, .int .i64 0, .int .i64 0, .int .i64 0, v9] rfl
  have p8 := p7.other ⟨gA, 8, none⟩ (.int .i64 0) hne
  have b8 := b7.setCell (p := ⟨gA, 8, none⟩) h2 (.int .i64 0)
  have a9 := a8.set 9 (.slice none 0 0) #[.int .i64 0, .slice none 0 0, .int .i64 0, .int .i64 0, .int .i64 0, .bool false, .int .i64 0, .int .i64 0, .int .i64 0, .slice none 0 0] rfl
  have p9 := p8.other ⟨gA, 9, none⟩ (.slice none 0 0) hne
  have b9 := b8.setCell (p := ⟨gA, 9, none⟩) h2 (.slice none 0 0)
  exact ⟨p9, a9, b9⟩

theorem array10A {α : Type} {cs : Array α} (h : cs.size = 10) : ∃ c0 c1 c2 c3 c4 c5 c6 c7 c8 c9, cs = #[c0, c1, c2, c3, c4, c5, c6, c7, c8, c9] := by
  obtain ⟨l⟩ := cs
  match l, h with
  | [c0, c1, c2, c3, c4, c5, c6, c7, c8, c9], _ => exact ⟨c0, c1, c2, c3, c4, c5, c6, c7, c8, c9, rfl⟩

set_option maxRecDepth 100000 in
set_option maxHeartbeats 4000000 in
theorem catch_panicking (base gE gA : Nat) (z e : Int) (he : e ≠ 0) (cs : Array Value) (w : World) (h : EB w gE z) (hA : AB w gA cs) (hs : cs.size = 10) (h1 : base ≤ gE) (h2 : base ≤ gA) :
    CallsD Try.prog 25 #[.pointer (some ⟨gE, 0, none⟩), .pointer (some ⟨gA, 0, none⟩)] (.panicking (thrown e)) w fun x u' w' =>
      x = .returned (.tuple #[]) ∧ u' = .panicking [{ v := .iface 96 (.int .i64 e), recovered := true }] ∧ EB w' gE e ∧ AB w' gA zeroA ∧ Below base w w' := by
  have c0 := h.cell
  have f0 := h.free
  have hp := h.put e
  have c1 := hp.cell
  have hne : gE ≠ gA := by
    rintro rfl
    have := h.symm.trans hA
    simp only [Option.some.injEq, Obj.cells.injEq] at this
    exact absurd this.2.1 (by decide)
  have hA1 := hA.other ⟨gE, 0, none⟩ (.int .i64 e) (Ne.symm hne)
  obtain ⟨v0, v1, v2, v3, v4, v5, v6, v7, v8, v9, rfl⟩ := array10A hs
  obtain ⟨d0, d1, d2, d3, d4, d5, d6, d7, d8, d9⟩ := ask_cells hA1
  have fz := fun i => hA1.free i
  have b1 := (Below.refl base w).setCell (p := ⟨gE, 0, none⟩) h1 (.int .i64 e)
  refine callsD_of_wpS Try.func25 rfl fun c₀ cs hu => ?_
  apply wpS_seq
  apply wpS_region
  simp [wpOpsS, go_sem, recoverD, hu, Try.ntmps25, Exit.thenS, thrown]
  refine (caught_some e w).mono ?_
  rintro x w' ⟨rfl, rfl⟩
  simp [go_sem, c0, f0]
  refine wpS_of_wp ?_
  go_wp2
  have fin := zeroed base w' _ gE gA e v0 v1 v2 v3 v4 v5 v6 v7 v8 v9 hp hA1 hne h2 b1
  clear d0 d1 d2 d3 d4 d5 d6 d7 d8 d9 fz hA1 hA hp c0 c1 f0 h b1
  revert fin
  generalize (((((((((((w'.setCell ⟨gE, 0, none⟩ (.int .i64 e)).setCell ⟨gA, 0, none⟩ (.int .i64 0)).setCell ⟨gA, 1, none⟩ (.slice none 0 0)).setCell ⟨gA, 2, none⟩ (.int .i64 0)).setCell ⟨gA, 3, none⟩ (.int .i64 0)).setCell ⟨gA, 4, none⟩ (.int .i64 0)).setCell ⟨gA, 5, none⟩ (.bool false)).setCell ⟨gA, 6, none⟩ (.int .i64 0)).setCell ⟨gA, 7, none⟩ (.int .i64 0)).setCell ⟨gA, 8, none⟩ (.int .i64 0)).setCell ⟨gA, 9, none⟩ (.slice none 0 0)) = W
  intro fin
  obtain ⟨f1, f2, f3⟩ := fin
  cases c₀
  simp_all [bodyPostS, results, Try.results25]

end Go.Proofs.Ythkgbgkijdeaoaa

namespace Go.Proofs.Ythkgbgkijdeaoaa
open Go.RowKit

theorem setCell_self {w : World} {g i : Nat} {cs : Array Value} {T : TypeId} {v : Value} (hg : w.heap[g]? = some (.cells cs T (0, 0))) (hv : cs[i]? = some v) : w.setCell ⟨g, i, none⟩ v = w := by
  have hc : cs.setIfInBounds i v = cs := by
    apply Array.ext_getElem?
    intro j
    rw [Array.getElem?_setIfInBounds]
    split
    · rename_i h
      subst h
      split
      · exact hv.symm
      · rename_i h; rw [Array.getElem?_eq_none (by omega)] at hv; cases hv
    · rfl
  have hh : (w.setCell ⟨g, i, none⟩ v).heap = w.heap := by
    apply Array.ext_getElem?
    intro k
    by_cases hk : k = g
    · subst hk
      rw [heap_setCell_same w k i cs T v hg, hc, hg]
    · exact Below.heap_setCell w ⟨g, i, none⟩ v k hk
  show { w with heap := (w.setCell ⟨g, i, none⟩ v).heap } = w
  rw [hh]

theorem ask_self {w : World} {g : Nat} {v0 v1 v2 v3 v4 v5 v6 v7 v8 v9 : Value} (h : AB w g #[v0, v1, v2, v3, v4, v5, v6, v7, v8, v9]) :
    ((((((((((w.setCell ⟨g, 0, none⟩ v0).setCell ⟨g, 1, none⟩ v1).setCell ⟨g, 2, none⟩ v2).setCell ⟨g, 3, none⟩ v3).setCell ⟨g, 4, none⟩ v4).setCell ⟨g, 5, none⟩ v5).setCell ⟨g, 6, none⟩ v6).setCell ⟨g, 7, none⟩ v7).setCell ⟨g, 8, none⟩ v8).setCell ⟨g, 9, none⟩ v9) = w := by
  rw [setCell_self (i := 0) (v := v0) h rfl, setCell_self (i := 1) (v := v1) h rfl, setCell_self (i := 2) (v := v2) h rfl, setCell_self (i := 3) (v := v3) h rfl, setCell_self (i := 4) (v := v4) h rfl, setCell_self (i := 5) (v := v5) h rfl, setCell_self (i := 6) (v := v6) h rfl, setCell_self (i := 7) (v := v7) h rfl, setCell_self (i := 8) (v := v8) h rfl, setCell_self (i := 9) (v := v9) h rfl]

/-- What Decode answers. -/
def DecTold (d : Int × Nat × AP) (w : World) (x : Ending) (w' : World) : Prop :=
  Below w.heap.size w w' ∧ (d.1 = 0 → ∃ idv bav, x = .returned (.tuple #[.agg #[.int .i64 (d.2.1 : Int), idv, .int .i64 (d.2.2.fr : Int), .int .i64 (d.2.2.to : Int), .int .i64 (d.2.2.ti : Int), .bool d.2.2.so, .int .i64 (d.2.2.ep : Int), .int .i64 (d.2.2.ix : Int), .int .i64 (d.2.2.li : Int), bav], .int .i64 0]) ∧ HB w' idv d.2.2.id ∧ BA w' bav d.2.2.bs) ∧ (d.1 ≠ 0 → x = .returned (.tuple #[.agg zeroA, .int .i64 d.1]))

/-- What bytes are read as, but for the kind. -/
def decK (k : Nat) (l : List UInt8) : Int × Nat × AP := if (decB k l).1 = 0 then (if (decB k l).2.1 = [] then (0, k, (decB k l).2.2) else (5, 0, AP0)) else ((decB k l).1, 0, AP0)
def decF (b : List UInt8) : Int × Nat × AP := if (uintF b 2147483648).1 = 0 then decK (uintF b 2147483648).2.1 (uintF b 2147483648).2.2 else ((uintF b 2147483648).1, 0, AP0)

set_option maxRecDepth 100000 in
set_option maxHeartbeats 2000000 in
theorem leave_bad (d : Int × Nat × AP) (w W : World) (gE gA : Nat) (z e : Int) (cs : Array Value) (tmps : Array Value) (h2 : tmps[2]?.getD undef = .pointer (some ⟨gA, 0, none⟩)) (h3 : tmps[3]?.getD undef = .pointer (some ⟨gE, 0, none⟩)) (he : e ≠ 0) (hE : EB W gE z) (hA : AB W gA cs) (hs : cs.size = 10) (h4 : w.heap.size ≤ gE) (h5 : w.heap.size ≤ gA) (hb : Below w.heap.size w W) (hd : d.1 = e) :
    Leaves Try.prog Try.f10 tmps (DecTold d w) [{ target := .fn (.func 25) #[.pointer (some ⟨gE, 0, none⟩), .pointer (some ⟨gA, 0, none⟩)], args := #[] }] (.panicking (thrown e)) W := by
  refine leaves_cons (f := 25) (args := #[.pointer (some ⟨gE, 0, none⟩), .pointer (some ⟨gA, 0, none⟩)]) (by simp) (by simp [go_sem]) ?_
  refine (catch_panicking w.heap.size gE gA z e he cs W hE hA hs h4 h5).mono ?_
  rintro x u' w' ⟨rfl, rfl, hE', hA', hb'⟩
  have c0 := hE'.cell
  obtain ⟨d0, d1, d2, d3, d4, d5, d6, d7, d8, d9⟩ := ask_cells hA'
  have hT : DecTold d w (.returned (.tuple #[.agg zeroA, .int .i64 e])) w' := ⟨hb.trans hb', fun h => absurd (hd.symm.trans h) he, fun _ => by rw [hd]⟩
  simp [Leaves, settle, results, Try.results10, go_sem, h2, h3, c0, d0, d1, d2, d3, d4, d5, d6, d7, d8, d9]
  exact hT

set_option maxRecDepth 100000 in
set_option maxHeartbeats 2000000 in
theorem leave_ok (d : Int × Nat × AP) (w W : World) (gE gA : Nat) (tmps : Array Value) (h2 : tmps[2]?.getD undef = .pointer (some ⟨gA, 0, none⟩)) (h3 : tmps[3]?.getD undef = .pointer (some ⟨gE, 0, none⟩)) (hE : EB W gE 0) (hA : AskAt W gA (d.2.1 : Int) d.2.2) (hb : Below w.heap.size w W) (hd : d.1 = 0) :
    Leaves Try.prog Try.f10 tmps (DecTold d w) [{ target := .fn (.func 25) #[.pointer (some ⟨gE, 0, none⟩), .pointer (some ⟨gA, 0, none⟩)], args := #[] }] .returning W := by
  refine leaves_cons (f := 25) (args := #[.pointer (some ⟨gE, 0, none⟩), .pointer (some ⟨gA, 0, none⟩)]) (by simp) (by simp [go_sem]) ?_
  refine (catch_idle gE gA 0 W hE).mono ?_
  rintro x u' w' ⟨rfl, rfl, hw⟩
  rw [setCell_self (i := 0) (v := .int .i64 0) hE rfl] at hw
  subst hw
  have c0 := hE.cell
  obtain ⟨idv, bav, hA', hid, hba⟩ := hA
  obtain ⟨d0, d1, d2, d3, d4, d5, d6, d7, d8, d9⟩ := ask_cells hA'
  have hT : DecTold d w (.returned (.tuple #[.agg #[.int .i64 (d.2.1 : Int), idv, .int .i64 (d.2.2.fr : Int), .int .i64 (d.2.2.to : Int), .int .i64 (d.2.2.ti : Int), .bool d.2.2.so, .int .i64 (d.2.2.ep : Int), .int .i64 (d.2.2.ix : Int), .int .i64 (d.2.2.li : Int), bav], .int .i64 0])) w' := ⟨hb, fun _ => ⟨idv, bav, rfl, hid, hba⟩, fun h => absurd hd h⟩
  simp [Leaves, settle, results, Try.results10, go_sem, h2, h3, c0, d0, d1, d2, d3, d4, d5, d6, d7, d8, d9]
  exact hT

/-- What through does with a reader, whatever the kind. -/
def ThruR (base g gA k : Nat) (l : List UInt8) (w : World) (x : Ending) (w' : World) : Prop :=
  (k ≤ 10 ∧ 1 ≤ k ∧ GotA base g gA (k : Int) (decB k l) w x w') ∨ (¬ (k ≤ 10 ∧ 1 ≤ k) ∧ x = .returned (.bool false) ∧ w' = w)

theorem decB_out (k : Nat) (l : List UInt8) (h : ¬ (k ≤ 10 ∧ 1 ≤ k)) : decB k l = (87, l, AP0) := by
  unfold decB
  rw [if_neg (by omega), if_neg (by omega), if_neg (by omega), if_neg (by omega), if_neg (by omega), if_neg (by omega), if_neg (by omega), if_neg (by omega), if_neg (by omega)]

set_option maxRecDepth 100000 in
set_option maxHeartbeats 8000000 in
theorem decode_core (v : Value) (b : List UInt8) (w : World) (hv : HB w v b) (hsz : b.length ≤ 140737488351232)
    (hT : ∀ (g gc gA k : Nat) (bv : Value) (l : List UInt8) (W : World), RF 63 W g gc bv l 0 → (∀ p n c, bv = .slice p n c → HB W (.slice p n c) b) → (∃ p n c, bv = .slice p n c) → l.length ≤ b.length → b.drop (b.length - l.length) = l → AB W gA #[.int .i64 (k : Int), .slice none 0 0, .int .i64 0, .int .i64 0, .int .i64 0, .bool false, .int .i64 0, .int .i64 0, .int .i64 0, .slice none 0 0] → w.heap.size ≤ g → w.heap.size ≤ gc → w.heap.size ≤ gA → w.heap.size ≤ W.heap.size →
      Calls Try.prog 17 #[.iface 64 (.pointer (some ⟨g, 0, none⟩)), .pointer (some ⟨gA, 0, none⟩)] W (ThruR w.heap.size g gA k l W)) :
    Calls Try.prog 10 #[v] w (DecTold (decF b) w) := by
  have hmf : ∀ (fn : Fn) (first cap : Array Value) (w : World), (Instr.makeFunc fn first cap).run Try.prog w = .ok (.func fn first cap) w := fun _ _ _ _ => rfl
  obtain ⟨p, c, rfl⟩ := hv.shape
  have bA := (Below.refl w.heap.size w).alloc (Nat.le_refl _) (.cells #[.int .i64 0, .slice none 0 0, .int .i64 0, .int .i64 0, .int .i64 0, .bool false, .int .i64 0, .int .i64 0, .int .i64 0, .slice none 0 0] 25)
  have sA : (w.alloc (.cells #[.int .i64 0, .slice none 0 0, .int .i64 0, .int .i64 0, .int .i64 0, .bool false, .int .i64 0, .int .i64 0, .int .i64 0, .slice none 0 0] 25)).heap.size = w.heap.size + 1 := World.size_alloc _ _
  have aA : AB (w.alloc (.cells #[.int .i64 0, .slice none 0 0, .int .i64 0, .int .i64 0, .int .i64 0, .bool false, .int .i64 0, .int .i64 0, .int .i64 0, .slice none 0 0] 25)) w.heap.size zeroA := heap_alloc_new w _
  have bE := bA.alloc bA.size (.cells #[.int .i64 0] 28)
  have bE1 := (Below.refl _ (w.alloc (.cells #[.int .i64 0, .slice none 0 0, .int .i64 0, .int .i64 0, .int .i64 0, .bool false, .int .i64 0, .int .i64 0, .int .i64 0, .slice none 0 0] 25))).alloc (Nat.le_refl _) (.cells #[.int .i64 0] 28)
  have aE : EB ((w.alloc (.cells #[.int .i64 0, .slice none 0 0, .int .i64 0, .int .i64 0, .int .i64 0, .bool false, .int .i64 0, .int .i64 0, .int .i64 0, .slice none 0 0] 25)).alloc (.cells #[.int .i64 0] 28)) (w.heap.size + 1) 0 := by rw [← sA]; exact heap_alloc_new _ _
  have aB := aA.later bE1
  have sE : ((w.alloc (.cells #[.int .i64 0, .slice none 0 0, .int .i64 0, .int .i64 0, .int .i64 0, .bool false, .int .i64 0, .int .i64 0, .int .i64 0, .slice none 0 0] 25)).alloc (.cells #[.int .i64 0] 28)).heap.size = w.heap.size + 1 + 1 := by rw [World.size_alloc, sA]
  obtain ⟨wA, hWA⟩ : ∃ x, x = (w.alloc (.cells #[.int .i64 0, .slice none 0 0, .int .i64 0, .int .i64 0, .int .i64 0, .bool false, .int .i64 0, .int .i64 0, .int .i64 0, .slice none 0 0] 25)).alloc (.cells #[.int .i64 0] 28) := ⟨_, rfl⟩
  rw [← hWA] at bE aE aB sE
  have hO := flopen_any (.slice p b.length c) b wA (hv.later bE) (by omega)
  have hvA := hv.later bE
  rw [hWA] at hO
  have HWA : Hid (wA = (w.alloc (.cells #[.int .i64 0, .slice none 0 0, .int .i64 0, .int .i64 0, .int .i64 0, .bool false, .int .i64 0, .int .i64 0, .int .i64 0, .slice none 0 0] 25)).alloc (.cells #[.int .i64 0] 28)) := hWA
  have hv0 := hv
  clear hWA bA sA aA bE1 hv
  obtain ⟨D, hD⟩ : ∃ D, D = decF b := ⟨_, rfl⟩
  have HD : Hid (D = decF b) := hD
  rw [← hD]
  clear hD
  have HSE : Hid (wA.heap.size = w.heap.size + 1 + 1) := sE
  clear sE
  go_enter_defers Try.func10, Try.ntmps10
  go_wp2_with fail
  refine hO.mono ?_
  rintro x w1 ⟨gc, hgc, rfl, hr, hb1⟩
  rw [← HWA.out] at hb1 hgc
  have hse := HSE.out
  have b1 := bE.trans (hb1.mono bE.size)
  have e1 : EB w1 (w.heap.size + 1) 0 := (hb1.block _ (Array.getElem?_eq_some_iff.1 aE).1).trans aE
  have a1 := aB.later hb1
  have v1 := hvA.later hb1
  have gcs : w.heap.size ≤ gc := by omega
  clear hO HWA hgc hb1 bE aE aB hvA hse HSE
  have bR := (Below.refl w1.heap.size w1).alloc (Nat.le_refl _) (.cells #[.slice p b.length c, .pointer (some ⟨gc, 0, none⟩)] 63)
  have rR : RF 63 (w1.alloc (.cells #[.slice p b.length c, .pointer (some ⟨gc, 0, none⟩)] 63)) w1.heap.size gc (.slice p b.length c) b 0 := ⟨heap_alloc_new w1 _, hr.later bR⟩
  have e2 : EB (w1.alloc (.cells #[.slice p b.length c, .pointer (some ⟨gc, 0, none⟩)] 63)) (w.heap.size + 1) 0 := (bR.block _ (Array.getElem?_eq_some_iff.1 e1).1).trans e1
  have a2 := a1.later bR
  have v2 := v1.later bR
  have b2 := b1.trans (bR.mono b1.size)
  have hN := rnumberF_any 63 (by decide) (by decide) w.heap.size w1.heap.size gc w.heap.size 0 (.slice p b.length c) _ zeroA b 2147483648 _ rR a2 rfl gcs (Nat.le_refl _)
  have sR := b1.size
  clear hr bR e1 a1 v1 rR a2
  go_wp2_with fail
  refine hN.mono ?_
  have hq := fun (h : (uintF b 2147483648).1 = 0) => rdUz (show (rdU b 0 2147483648).1 = 0 from h)
  have HF : Hid (decF b = if (uintF b 2147483648).1 = 0 then decK (uintF b 2147483648).2.1 (uintF b 2147483648).2.2 else ((uintF b 2147483648).1, 0, AP0)) := rfl
  change (uintF b 2147483648).1 = 0 → _ ∧ b = numL (uintF b 2147483648).2.1 ++ (uintF b 2147483648).2.2 at hq
  generalize (uintF b 2147483648).1 = e at *
  generalize (uintF b 2147483648).2.1 = k at *
  generalize (uintF b 2147483648).2.2 = l at *
  clear hN
  rintro x w3 ⟨b3, t3, a3, ⟨he, rfl, hr3⟩ | ⟨he, rfl⟩⟩
  rotate_left
  · have e3 : EB w3 (w.heap.size + 1) 0 := t3 _ _ _ _ e2 (by decide) (by decide)
    exact leave_bad D w w3 (w.heap.size + 1) w.heap.size 0 e _ _ rfl rfl he e3 a3 (by simp [zeroA]) (by omega) (Nat.le_refl _) (b2.trans b3) (by rw [HD.out, HF.out, if_neg he])
  have e3 : EB w3 (w.heap.size + 1) 0 := t3 _ _ _ _ e2 (by decide) (by decide)
  have bs3 := b2.trans b3
  have v3 : HB w3 (.slice p b.length c) b := hv0.later bs3
  have a3' : ∃ cs, AB w3 w.heap.size cs ∧ cs.size = 10 := ⟨_, a3, by simp [zeroA]⟩
  have HDK : Hid (D = decK k l) := by show _ = _; rw [HD.out, HF.out, if_pos he]
  have hbl : b = numL k ++ l := (hq he).2
  have hl1 : l.length ≤ b.length := by rw [hbl, List.length_append]; omega
  have hl2 : b.drop (b.length - l.length) = l := by
    have : b.length - l.length = (numL k).length := by rw [hbl, List.length_append]; omega
    rw [this]
    conv => lhs; rw [hbl]
    exact List.drop_left
  have hT3 := hT w1.heap.size gc w.heap.size k (.slice p b.length c) l w3 hr3 (fun p' n' c' h => h ▸ v3) ⟨_, _, _, rfl⟩ hl1 hl2 a3 sR gcs (Nat.le_refl _) bs3.size
  have HDO := decB_out k l
  clear hT hq HF HD hbl hl1 hl2 t3 b3 b2 e2 v2 a3 hr3 he v3
  go_wp2_with fail
  refine hT3.mono ?_
  clear hT3
  rintro x w4 (⟨_, _, b4, t4, ⟨hd, rfl, ⟨gc4, v4, r4⟩, aA4⟩ | ⟨hd, rfl, cs4, a4, s4⟩⟩ | ⟨hnk, rfl, rfl⟩)
  · have e4 : EB w4 (w.heap.size + 1) 0 := t4 _ _ _ _ e3 (by decide) (by decide) (by decide)
    have bs4 := bs3.trans b4
    have hE4 := rendF_any 63 w1.heap.size gc4 v4 (decB k l).2.1 w4 r4
    have HDK2 : Hid (D = if (decB k l).2.1 = [] then (0, k, (decB k l).2.2) else (5, 0, AP0)) := by show _ = _; rw [HDK.out]; unfold decK; rw [if_pos hd]
    generalize (decB k l).2.1 = l4 at *
    clear HDK HDO t4 b4 r4 e3
    go_wp2_with fail
    refine hE4.mono ?_
    clear hE4
    rintro x w5 ⟨rfl, ⟨hl4, rfl⟩ | ⟨hl4, rfl⟩⟩
    · obtain ⟨idv, bav, aa, hid, hba⟩ := id aA4
      obtain ⟨pi, ci, rfl⟩ := hid.shape
      obtain ⟨pb, cb, rfl⟩ := hba.shape
      generalize (decB k l).2.2.id.length = n1 at *
      generalize (decB k l).2.2.bs.length = n2 at *
      have s1 := ask_self aa
      have S1 : Hid _ := s1
      clear s1
      have s2 : Hid (w5.setCell ⟨w.heap.size + 1, 0, none⟩ (.int .i64 0) = w5) := setCell_self (i := 0) (v := .int .i64 0) e4 rfl
      have hok := fun (tmps : Array Value) (h2 : tmps[2]?.getD undef = .pointer (some ⟨w.heap.size, 0, none⟩)) (h3 : tmps[3]?.getD undef = .pointer (some ⟨w.heap.size + 1, 0, none⟩)) => leave_ok D w w5 (w.heap.size + 1) w.heap.size tmps h2 h3 e4 (by rw [HDK2.out, if_pos hl4]; exact aA4) bs4 (by rw [HDK2.out, if_pos hl4])
      obtain ⟨d0, d1, d2, d3, d4, d5, d6, d7, d8, d9⟩ := ask_cells aa
      have c4 := e4.cell
      have f4 := e4.free
      have fa := fun i => aa.free i
      clear aA4 e4 HDK2 hid hba hl4 bs4
      go_wp2
      rw [S1.out, s2.out]
      exact hok _ rfl rfl
    · exact leave_bad D w w5 (w.heap.size + 1) w.heap.size 0 5 _ _ rfl rfl (by decide) e4 aA4.choose_spec.choose_spec.1 rfl (by omega) (Nat.le_refl _) bs4 (by rw [HDK2.out, if_neg hl4])
  · have e4 : EB w4 (w.heap.size + 1) 0 := t4 _ _ _ _ e3 (by decide) (by decide) (by decide)
    exact leave_bad D w w4 (w.heap.size + 1) w.heap.size 0 _ cs4 _ rfl rfl hd e4 a4 s4 (by omega) (Nat.le_refl _) (bs3.trans b4) (by rw [HDK.out]; unfold decK; rw [if_neg hd])
  · have H := throw_some 87 (by decide) w4
    go_wp2_with fail
    refine H.mono ?_
    clear H
    rintro x w5 ⟨rfl, rfl⟩
    obtain ⟨cs, a5, s5⟩ := a3'
    exact leave_bad D w w5 (w.heap.size + 1) w.heap.size 0 87 cs _ rfl rfl (by decide) e3 a5 s5 (by omega) (Nat.le_refl _) bs3 (by rw [HDK.out]; unfold decK; rw [HDO hnk]; rfl)

end Go.Proofs.Ythkgbgkijdeaoaa

namespace Go.Proofs.Ythkgbgkijdeaoaa
open Go.RowKit

set_option maxRecDepth 100000 in
set_option maxHeartbeats 2000000 in
/-- A request of a kind that has nothing. -/
theorem thru_none (v : Value) (g : Nat) (k : Int) (w : World) (hc : w.cell? ⟨g, 0, none⟩ = some (.int .i64 k)) (h : k = 8 ∨ k = 9) :
    Calls Try.prog 17 #[v, .pointer (some ⟨g, 0, none⟩)] w fun e w' => e = .returned (.bool true) ∧ w' = w := by
  have h1 : ¬ k = 1 := by omega
  have h2 : ¬ k = 2 := by omega
  have h3 : ¬ k = 3 := by omega
  have h4 : ¬ k = 4 := by omega
  have h5 : ¬ k = 5 := by omega
  have h6 : ¬ k = 6 := by omega
  have h7 : ¬ k = 7 := by omega
  have h10 : ¬ k = 10 := by omega
  rcases h with h8 | h9
  · have b8 : (k == 8) = true := by rw [h8]; rfl
    clear h8
    go_enter Try.func17, Try.ntmps17
    go_wp2
    go_ret
    exact ⟨rfl, rfl⟩
  · have h8 : ¬ k = 8 := by omega
    have b9 : (k == 9) = true := by rw [h9]; rfl
    clear h9
    go_enter Try.func17, Try.ntmps17
    go_wp2
    go_ret
    exact ⟨rfl, rfl⟩

set_option maxRecDepth 100000 in
set_option maxHeartbeats 2000000 in
/-- A request of no kind. -/
theorem thru_bad (v : Value) (g : Nat) (k : Int) (w : World) (hc : w.cell? ⟨g, 0, none⟩ = some (.int .i64 k)) (h : ¬ (k ≤ 10 ∧ 1 ≤ k)) :
    Calls Try.prog 17 #[v, .pointer (some ⟨g, 0, none⟩)] w fun e w' => e = .returned (.bool false) ∧ w' = w := by
  have h1 : ¬ k = 1 := by omega
  have h2 : ¬ k = 2 := by omega
  have h3 : ¬ k = 3 := by omega
  have h4 : ¬ k = 4 := by omega
  have h5 : ¬ k = 5 := by omega
  have h6 : ¬ k = 6 := by omega
  have h7 : ¬ k = 7 := by omega
  have h8 : ¬ k = 8 := by omega
  have h9 : ¬ k = 9 := by omega
  have h10 : ¬ k = 10 := by omega
  clear h
  go_enter Try.func17, Try.ntmps17
  go_wp2
  go_ret
  exact ⟨rfl, rfl⟩

theorem dec_kinds (k : Nat) (hk : k ≤ 10 ∧ 1 ≤ k) : k = 1 ∨ k = 2 ∨ k = 3 ∨ k = 4 ∨ k = 5 ∨ k = 6 ∨ k = 7 ∨ k = 8 ∨ k = 9 ∨ k = 10 := by omega

set_option maxRecDepth 100000 in
set_option maxHeartbeats 2000000 in
theorem decode_any (v : Value) (b : List UInt8) (w : World) (hv : HB w v b) (hsz : b.length ≤ 140737488351232) :
    Calls Try.prog 10 #[v] w (DecTold (decF b) w) := by
  refine decode_core v b w hv hsz ?_
  intro g gc gA k bv l W hr hb hbv hl hdr hA hg hgc hgA hW
  by_cases hk : k ≤ 10 ∧ 1 ≤ k
  · rcases dec_kinds k hk with rfl | rfl | rfl | rfl | rfl | rfl | rfl | rfl | rfl | rfl
    · obtain ⟨p, n, c, rfl⟩ := hbv
      exact (tr1 w.heap.size g gc gA p n c l W hr hA hgA b (hb p n c rfl) hl hdr hsz hg).mono fun x w' h => .inl ⟨hk.1, hk.2, h⟩
    · exact (tr2 w.heap.size g gc gA bv l W hr hA hgA hgc).mono fun x w' h => .inl ⟨hk.1, hk.2, h⟩
    · exact (tr3 w.heap.size g gc gA bv l W hr hA hgA hgc (by omega)).mono fun x w' h => .inl ⟨hk.1, hk.2, h⟩
    · exact (tr4 w.heap.size g gc gA bv l W hr hA hgA hgc (by omega)).mono fun x w' h => .inl ⟨hk.1, hk.2, h⟩
    · exact (tr5 w.heap.size g gc gA bv l W hr hA hgA hgc hW (by omega)).mono fun x w' h => .inl ⟨hk.1, hk.2, h⟩
    · by_cases hf : (flagF (numsG 2 l).2.1).2.1 = true
      · have e : decB 6 l = dec6a l := by show dec6 l = _; unfold dec6; rw [if_pos hf]
        exact (tr6a w.heap.size g gc gA bv l W hr hA hgA hgc hW hf (by omega)).mono fun x w' h => .inl ⟨hk.1, hk.2, by rw [e]; exact h⟩
      · have e : decB 6 l = dec6b l := by show dec6 l = _; unfold dec6; rw [if_neg hf]
        exact (tr6b w.heap.size g gc gA bv l W hr hA hgA hgc hW (by simpa using hf)).mono fun x w' h => .inl ⟨hk.1, hk.2, by rw [e]; exact h⟩
    · exact (tr7 w.heap.size g gc gA bv l W hr hA hgA hgc hW).mono fun x w' h => .inl ⟨hk.1, hk.2, h⟩
    · refine (thru_none _ gA 8 W (hA.cell rfl) (.inl rfl)).mono ?_
      rintro x w' ⟨rfl, rfl⟩
      exact .inl ⟨hk.1, hk.2, Below.refl _ _, fun _ _ _ _ h _ _ _ => h, .inl ⟨rfl, rfl, ⟨gc, bv, hr⟩, _, _, hA, HB.nil _, BA.nil _⟩⟩
    · refine (thru_none _ gA 9 W (hA.cell rfl) (.inr rfl)).mono ?_
      rintro x w' ⟨rfl, rfl⟩
      exact .inl ⟨hk.1, hk.2, Below.refl _ _, fun _ _ _ _ h _ _ _ => h, .inl ⟨rfl, rfl, ⟨gc, bv, hr⟩, _, _, hA, HB.nil _, BA.nil _⟩⟩
    · exact (tr10 w.heap.size g gc gA bv l W hr hA hgA hgc hW (by omega)).mono fun x w' h => .inl ⟨hk.1, hk.2, h⟩
  · refine (thru_bad _ gA (k : Int) W (hA.cell rfl) (by omega)).mono ?_
    rintro x w' ⟨rfl, rfl⟩
    exact .inr ⟨hk, rfl, rfl⟩

end Go.Proofs.Ythkgbgkijdeaoaa
